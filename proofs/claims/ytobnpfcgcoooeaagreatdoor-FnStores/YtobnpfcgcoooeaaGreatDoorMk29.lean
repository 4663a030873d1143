/- Texts put together: StsI StsJ -/
import Derived.Test.YtobnpfcgcoooeaaGreatDoorMk18
import Derived.Test.YtobnpfcgcoooeaaGreatDoorShs
import Derived.Shelf.SlSortCmp.BreakPatternsK
import Derived.Test.YtobnpfcgcoooeaaGreatDoorMk17
import Derived.Shelf.SlSortCmp.PdqK
/- StsI -/
namespace Go.Proofs.YtobnpfcgcoooeaaGreatDoor
open Go.RowKit Go.Deep Go.Sort Go.Lib
set_option maxRecDepth 100000

theorem nextPow_m (n : Nat) (hn : n < 4611686018427387904) (w : World) : Calls Tryz.prog 118 #[.int .i64 n] w fun e w' => e = .returned (.int .u64 ((1 <<< bitsLen n : Nat) : Int)) ∧ w' = w :=
  AnyF.nextPowerOfTwo { Tryz.sortRow with } n hn w
theorem xorNext_m (rb ro X : Nat) (hX : X < 18446744073709551616) (w : World) (hc : w.cell? ⟨rb, ro, none⟩ = some (.int .u64 X)) (hf : w.frozen? ⟨rb, ro, none⟩ = false) :
    Calls Tryz.prog 119 #[.pointer (some ⟨rb, ro, none⟩)] w fun e w' => e = .returned (.int .u64 (xorNextN X : Nat)) ∧ w' = (w.setCell ⟨rb, ro, none⟩ (.int .u64 (xorNextN X : Nat))).drewN 3 :=
  AnyF.xorshift_Next { Tryz.sortRow with } rb ro X hX w hc hf

/-- A cell of another block behind an exchange. -/
theorem box_swp3 {W : World} {blk c p q : Nat} {v : Value} (hne : blk ≠ c) (hc : W.cell? ⟨c, 0, none⟩ = some v) (hf : W.frozen? ⟨c, 0, none⟩ = false) (u0 u1 u2 u3 u4 u5 : Value) :
    (((((((W.setCell ⟨blk, p, none⟩ u0).setCell ⟨blk, p + 1, none⟩ u1).setCell ⟨blk, p + 2, none⟩ u2).setCell ⟨blk, q, none⟩ u3).setCell ⟨blk, q + 1, none⟩ u4).setCell ⟨blk, q + 2, none⟩ u5).drew).cell? ⟨c, 0, none⟩ = some v ∧
    (((((((W.setCell ⟨blk, p, none⟩ u0).setCell ⟨blk, p + 1, none⟩ u1).setCell ⟨blk, p + 2, none⟩ u2).setCell ⟨blk, q, none⟩ u3).setCell ⟨blk, q + 1, none⟩ u4).setCell ⟨blk, q + 2, none⟩ u5).drew).frozen? ⟨c, 0, none⟩ = false := by
  constructor
  · rw [World.cell?_drew, World.cell?_setCell_far _ _ _ _ hne, World.cell?_setCell_far _ _ _ _ hne, World.cell?_setCell_far _ _ _ _ hne, World.cell?_setCell_far _ _ _ _ hne, World.cell?_setCell_far _ _ _ _ hne, World.cell?_setCell_far _ _ _ _ hne]
    exact hc
  · simp only [World.frozen?_drew, World.frozen?_setCell]
    exact hf

set_option maxHeartbeats 16000000 in
theorem breakM (fv : Value) (blk off cap a L : Nat) (d : Array (Int × Int × Int)) (w : World) (R : RowK encR 3 w blk off d) (hb : a + L ≤ d.size) (hsz : d.size < 1048576) (h8 : 8 ≤ L) :
    Calls Tryz.prog 104 #[.slice (some ⟨blk, off, none⟩) d.size cap, .int .i64 a, .int .i64 ((a + L : Nat) : Int), fv] w fun e w' => e = .returned (.tuple #[]) ∧ SWK encR 3 w blk off (breakPatterns d a (a + L)) w' := by
  have mixed : Tryz.prog.follows .mixedOrders = true := by kernel_rfl
  have HR : Hid (RowK encR 3 w blk off d) := R
  rw [breakPatterns_eq d a L h8]
  obtain ⟨M, hM⟩ : ∃ M : Nat, M = 1 <<< bitsLen L := ⟨_, rfl⟩
  have hM1 : 1 ≤ M := by rw [hM, Nat.one_shiftLeft]; exact Nat.two_pow_pos _
  have hM2 : M ≤ 2 * L := by rw [hM, Nat.one_shiftLeft]; exact two_pow_bitsLen_le (by omega)
  have hNP : ∀ w, Calls Tryz.prog 118 #[.int .i64 (L : Int)] w fun e w' => e = .returned (.int .u64 (M : Int)) ∧ w' = w := by rw [hM]; exact fun w => nextPow_m L (by omega) w
  rw [← hM]
  clear hM
  obtain ⟨I0, hI0⟩ : ∃ I0 : Nat, I0 = a + L / 4 * 2 - 1 := ⟨_, rfl⟩
  rw [← hI0]
  have eI0 : Hid ((a : Int) + (L : Int) / 4 * 2 - 1 = (I0 : Int)) := (show (a : Int) + (L : Int) / 4 * 2 - 1 = (I0 : Int) by omega)
  have eI1 : Hid ((a : Int) + (L : Int) / 4 * 2 + 1 = (I0 : Int) + 2) := (show (a : Int) + (L : Int) / 4 * 2 + 1 = (I0 : Int) + 2 by omega)
  have hI3 : I0 + 3 ≤ d.size := by omega
  clear hI0
  obtain ⟨RES, hRES⟩ : ∃ r, r = bpRest a L M I0 3 0 (UInt64.ofNat L, d) := ⟨_, rfl⟩
  have HRES : Hid (RES = bpRest a L M I0 3 0 (UInt64.ofNat L, d)) := hRES
  rw [← hRES]
  clear hRES
  have hLz : ((a : Int) + (L : Int) - (a : Int)) = (L : Int) := by omega
  have h8z : (8 : Int) ≤ (L : Int) := by omega
  have hne : blk ≠ w.heap.size := by have := R.hblk; omega
  have HS0 : Hid (SWK encR 3 w blk off d w) := SWK.start R.hH
  have hLu : (UInt64.ofNat L).toNat = L := by simp; omega
  clear R
  go_enter Tryz.func104, Tryz.ntmps104
  go_wp2_with fail
  refine (hNP _).mono ?_
  rintro e w' ⟨rfl, rfl⟩
  clear hNP
  go_wp2
  go_loopg [11] 3 (fun g1 vi wr => ∃ (I t : Nat) (r : UInt64) (dk : Array (Int × Int × Int)), vi = .int .i64 I ∧ Hid (I = I0 + t) ∧ t ≤ 3 ∧ 3 - t ≤ g1 ∧ dk.size = d.size ∧ Hid (SWK encR 3 w blk off dk wr) ∧
      wr.cell? ⟨w.heap.size, 0, none⟩ = some (.int .u64 (r.toNat : Int)) ∧ wr.frozen? ⟨w.heap.size, 0, none⟩ = false ∧ Hid (bpRest a L M I0 (3 - t) t (r, dk) = RES))
  case atStart =>
    refine ⟨I0, 0, UInt64.ofNat L, d, ?_, rfl, by omega, by omega, rfl, HS0.out.alloc _, ?_, by simp, HRES.out.symm⟩
    · have := eI0.out
      congr 1
    · rw [hLu]
      simp
  case round =>
    obtain ⟨I, t, r, dk, rfl, HI, ht, hg1, hsk, HS1, cR, fR, HO⟩ := hrel
    have hIt := HI.out
    have hI01 := eI1.out
    by_cases ht3 : t < 3
    · have hle : (I : Int) ≤ (a : Int) + (L : Int) / 4 * 2 + 1 := by omega
      have hIz : (I : Int) < (d.size : Int) := by omega
      have hIs : I < d.size := by omega
      obtain ⟨R0, hRr⟩ : ∃ R0 : Nat, R0 = r.toNat := ⟨_, rfl⟩
      have lR : R0 < 18446744073709551616 := by rw [hRr]; exact r.toNat_lt
      obtain ⟨R', hR'⟩ : ∃ R' : Nat, R' = xorNextN R0 := ⟨_, rfl⟩
      have lR' : R' < 18446744073709551616 := by rw [hR']; exact xorNextN_lt R0 lR
      obtain ⟨O, hO⟩ : ∃ O : Nat, O = R' &&& (M - 1) := ⟨_, rfl⟩
      have lO : O ≤ M - 1 := by rw [hO]; exact Nat.and_le_right
      have eAnd : bits .and .u64 (R' : Int) ((M : Int) - 1) = (O : Int) := by
        rw [show ((M : Int) - 1) = ((M - 1 : Nat) : Int) by omega, bits_and_u64_nat _ _ lR' (by omega), hO]
      rw [← hRr] at cR
      have hNext := xorNext_m w.heap.size 0 R0 lR wr cR fR
      rw [← hR'] at hNext
      have HN : Hid (R' = (xorNext r).toNat ∧ O = (xorNext r).toNat &&& (M - 1)) := by
        have e : R' = (xorNext r).toNat := by rw [hR', hRr, xorNext_toNat]
        exact ⟨e, by rw [hO, e]⟩
      clear hRr hR' hO hIt hI01
      have HS2 : Hid (SWK encR 3 w blk off dk ((wr.setCell ⟨w.heap.size, 0, none⟩ (.int .u64 (R' : Int))).drewN 3)) := (HS1.out.setCell_new w.heap.size 0 (.int .u64 (R' : Int)) (Nat.le_refl _)).drewN 3
      have cR' : ((wr.setCell ⟨w.heap.size, 0, none⟩ (.int .u64 (R' : Int))).drewN 3).cell? ⟨w.heap.size, 0, none⟩ = some (.int .u64 (R' : Int)) := by
        rw [World.cell?_drewN]; exact World.cell?_setCell_same _ _ _ cR
      have fR' : ((wr.setCell ⟨w.heap.size, 0, none⟩ (.int .u64 (R' : Int))).drewN 3).frozen? ⟨w.heap.size, 0, none⟩ = false := by
        rw [World.frozen?_drewN]; simpa using fR
      generalize (wr.setCell ⟨w.heap.size, 0, none⟩ (.int .u64 (R' : Int))).drewN 3 = w2 at hNext HS2 cR' fR'
      clear cR fR
      have STEP : ∀ J : Nat, J = a + (if O ≥ L then O - L else O) → Hid (bpRest a L M I0 (3 - (t + 1)) (t + 1) (xorNext r, swp dk I J) = RES) := fun J hJ => by
        show _ = _
        rw [← HO.out, bp_step a L M I0 t r dk (if O ≥ L then O - L else O) ht3 (by rw [← HN.out.2]), ← hJ, HI.out]
      by_cases hLO : L ≤ O
      · have hLOz : (L : Int) ≤ (O : Int) := by omega
        obtain ⟨J, hJ⟩ : ∃ J : Nat, J = a + (O - L) := ⟨_, rfl⟩
        have HJ : Hid (J = a + (O - L)) := hJ
        have eJ : (a : Int) + ((O : Int) - (L : Int)) = (J : Int) := by omega
        have hJz : (J : Int) < (d.size : Int) := by omega
        have hJs : J < d.size := by omega
        clear hJ
        go_wp2_with fail
        refine hNext.mono ?_
        rintro e w' ⟨rfl, hw'⟩
        obtain rfl : w2 = w' := hw'.symm
        go_wp2_with fail
        obtain ⟨xi, hxi⟩ : ∃ x, dk[I]! = x := ⟨_, rfl⟩
        obtain ⟨xj, hxj⟩ : ∃ x, dk[J]! = x := ⟨_, rfl⟩
        obtain ⟨l0, l1, l2⟩ := hxi ▸ swk_at3 HS2.out HR.out hsk I (by omega)
        obtain ⟨q0, q1, q2⟩ := hxj ▸ swk_at3 HS2.out HR.out hsk J (by omega)
        obtain ⟨z0, z1, z2⟩ := swk_fr3 HS2.out HR.out hsk I (by omega)
        obtain ⟨y0, y1, y2⟩ := swk_fr3 HS2.out HR.out hsk J (by omega)
        have hJ' := HJ.out
        rcases Nat.lt_trichotomy I J with hlt | heq | hlt
        · clear hJ'
          go_big_region_o
          all_goals go_wp2
          go_roundg (3 - (t + 1))
          case measure => omega
          case rel =>
            refine ⟨I + 1, t + 1, xorNext r, swp dk I J, by go_num, (show I + 1 = I0 + (t + 1) by have := HI.out; omega), by omega, Nat.le_refl _, by rw [size_swp]; exact hsk, swk_swp3 HS2.out HR.out I J (by omega) (by omega) hxi hxj, ?_, ?_, STEP J (by have := HJ.out; rw [if_pos hLO]; exact this)⟩
            · rw [← HN.out.1]
              exact (box_swp3 hne cR' fR' _ _ _ _ _ _).1
            · exact (box_swp3 hne cR' fR' _ _ _ _ _ _).2
        · subst heq
          clear hJ'
          go_big_region_o
          all_goals go_wp2
          go_roundg (3 - (t + 1))
          case measure => omega
          case rel =>
            refine ⟨I + 1, t + 1, xorNext r, swp dk I I, by go_num, (show I + 1 = I0 + (t + 1) by have := HI.out; omega), by omega, Nat.le_refl _, by rw [size_swp]; exact hsk, swk_swp3 HS2.out HR.out I I (by omega) (by omega) hxi hxi, ?_, ?_, STEP I (by have := HJ.out; rw [if_pos hLO]; exact this)⟩
            · rw [← HN.out.1]
              exact (box_swp3 hne cR' fR' _ _ _ _ _ _).1
            · exact (box_swp3 hne cR' fR' _ _ _ _ _ _).2
        · clear hJ'
          go_big_region_o
          all_goals go_wp2
          go_roundg (3 - (t + 1))
          case measure => omega
          case rel =>
            refine ⟨I + 1, t + 1, xorNext r, swp dk I J, by go_num, (show I + 1 = I0 + (t + 1) by have := HI.out; omega), by omega, Nat.le_refl _, by rw [size_swp]; exact hsk, swk_swp3 HS2.out HR.out I J (by omega) (by omega) hxi hxj, ?_, ?_, STEP J (by have := HJ.out; rw [if_pos hLO]; exact this)⟩
            · rw [← HN.out.1]
              exact (box_swp3 hne cR' fR' _ _ _ _ _ _).1
            · exact (box_swp3 hne cR' fR' _ _ _ _ _ _).2
      · have hLOz : ¬ (L : Int) ≤ (O : Int) := by omega
        obtain ⟨J, hJ⟩ : ∃ J : Nat, J = a + O := ⟨_, rfl⟩
        have HJ : Hid (J = a + O) := hJ
        have eJ : (a : Int) + (O : Int) = (J : Int) := by omega
        have hJz : (J : Int) < (d.size : Int) := by omega
        have hJs : J < d.size := by omega
        clear hJ
        go_wp2_with fail
        refine hNext.mono ?_
        rintro e w' ⟨rfl, hw'⟩
        obtain rfl : w2 = w' := hw'.symm
        go_wp2_with fail
        obtain ⟨xi, hxi⟩ : ∃ x, dk[I]! = x := ⟨_, rfl⟩
        obtain ⟨xj, hxj⟩ : ∃ x, dk[J]! = x := ⟨_, rfl⟩
        obtain ⟨l0, l1, l2⟩ := hxi ▸ swk_at3 HS2.out HR.out hsk I (by omega)
        obtain ⟨q0, q1, q2⟩ := hxj ▸ swk_at3 HS2.out HR.out hsk J (by omega)
        obtain ⟨z0, z1, z2⟩ := swk_fr3 HS2.out HR.out hsk I (by omega)
        obtain ⟨y0, y1, y2⟩ := swk_fr3 HS2.out HR.out hsk J (by omega)
        have hJ' := HJ.out
        rcases Nat.lt_trichotomy I J with hlt | heq | hlt
        · clear hJ'
          go_big_region_o
          all_goals go_wp2
          go_roundg (3 - (t + 1))
          case measure => omega
          case rel =>
            refine ⟨I + 1, t + 1, xorNext r, swp dk I J, by go_num, (show I + 1 = I0 + (t + 1) by have := HI.out; omega), by omega, Nat.le_refl _, by rw [size_swp]; exact hsk, swk_swp3 HS2.out HR.out I J (by omega) (by omega) hxi hxj, ?_, ?_, STEP J (by have := HJ.out; rw [if_neg hLO]; exact this)⟩
            · rw [← HN.out.1]
              exact (box_swp3 hne cR' fR' _ _ _ _ _ _).1
            · exact (box_swp3 hne cR' fR' _ _ _ _ _ _).2
        · subst heq
          clear hJ'
          go_big_region_o
          all_goals go_wp2
          go_roundg (3 - (t + 1))
          case measure => omega
          case rel =>
            refine ⟨I + 1, t + 1, xorNext r, swp dk I I, by go_num, (show I + 1 = I0 + (t + 1) by have := HI.out; omega), by omega, Nat.le_refl _, by rw [size_swp]; exact hsk, swk_swp3 HS2.out HR.out I I (by omega) (by omega) hxi hxi, ?_, ?_, STEP I (by have := HJ.out; rw [if_neg hLO]; exact this)⟩
            · rw [← HN.out.1]
              exact (box_swp3 hne cR' fR' _ _ _ _ _ _).1
            · exact (box_swp3 hne cR' fR' _ _ _ _ _ _).2
        · clear hJ'
          go_big_region_o
          all_goals go_wp2
          go_roundg (3 - (t + 1))
          case measure => omega
          case rel =>
            refine ⟨I + 1, t + 1, xorNext r, swp dk I J, by go_num, (show I + 1 = I0 + (t + 1) by have := HI.out; omega), by omega, Nat.le_refl _, by rw [size_swp]; exact hsk, swk_swp3 HS2.out HR.out I J (by omega) (by omega) hxi hxj, ?_, ?_, STEP J (by have := HJ.out; rw [if_neg hLO]; exact this)⟩
            · rw [← HN.out.1]
              exact (box_swp3 hne cR' fR' _ _ _ _ _ _).1
            · exact (box_swp3 hne cR' fR' _ _ _ _ _ _).2
    · have hle : ¬ (I : Int) ≤ (a : Int) + (L : Int) / 4 * 2 + 1 := by omega
      have ht' : t = 3 := by omega
      clear hIt hI01
      go_wp2
      go_end0
      refine ⟨rfl, ?_⟩
      have := HO.out
      rw [ht'] at this
      rw [← this]
      exact HS1.out
end Go.Proofs.YtobnpfcgcoooeaaGreatDoor

/- StsJ -/
namespace Go.Proofs.YtobnpfcgcoooeaaGreatDoor
open Go.RowKit Go.Deep Go.Sort Go.Lib
set_option maxRecDepth 100000

theorem swo_rcmp (o : Nat) : SWO (ltOf (rcmp o)) := by
  have h := ord_rcmp o
  refine ⟨fun x => ?_, fun x y z h1 h2 => ?_, fun x y z h1 h2 => ?_⟩
  · have := h.self x
    exact decide_eq_false (by omega)
  · have h1 : rcmp o x y < 0 := of_decide_eq_true h1
    have h2 : rcmp o y z < 0 := of_decide_eq_true h2
    have h3 := h.trans x y z (by omega) (by omega)
    refine decide_eq_true ?_
    have a1 := h.anti x z
    have a2 := h.anti y z
    have a3 := h.anti x y
    have : ¬ rcmp o z x ≤ 0 := fun h4 => by
      have := h.trans z x y h4 (by omega)
      omega
    omega
  · have h1 : ¬ rcmp o x y < 0 := of_decide_eq_false h1
    have h2 : ¬ rcmp o y z < 0 := of_decide_eq_false h2
    have a1 := h.anti x z
    have a2 := h.anti y z
    have a3 := h.anti x y
    have h3 := h.trans z y x (by omega) (by omega)
    exact decide_eq_false (by omega)

theorem insW (o : Nat) (ho : o < 6) (blk off cap : Nat) (d0 : Array (Int × Int × Int)) (w0 : World) (R : RowK encR 3 w0 blk off d0) (hsz : d0.size < 1048576) (a b : Nat) (d : Array (Int × Int × Int)) (w : World) (hs : d.size = d0.size) (S : SWK encR 3 w0 blk off d w) (hab : a ≤ b) (hb : b ≤ d0.size) : Calls Tryz.prog 102 #[.slice (some ⟨blk, off, none⟩) d0.size cap, .int .i64 a, .int .i64 b, .func (.func 47) #[.int .i64 o] #[]] w fun e w' => e = .returned (.tuple #[]) ∧ SWK encR 3 w0 blk off (Go.Sort.insertionSort (ltOf (rcmp o)) d a b) w' := by
  have h := insM o ho blk off cap a b d w (rowk_up R S hs) hab (by omega) (by omega)
  rw [hs] at h
  exact h.mono fun _ _ x => ⟨x.1, swk_up R S x.2 (insertionSort_holds (swo_rcmp o) d a b hab (by omega)).1.1⟩
theorem heapW (o : Nat) (ho : o < 6) (blk off cap : Nat) (d0 : Array (Int × Int × Int)) (w0 : World) (R : RowK encR 3 w0 blk off d0) (hsz : d0.size < 1048576) (a b : Nat) (d : Array (Int × Int × Int)) (w : World) (hs : d.size = d0.size) (S : SWK encR 3 w0 blk off d w) (hab : a < b) (hb : b ≤ d0.size) : Calls Tryz.prog 103 #[.slice (some ⟨blk, off, none⟩) d0.size cap, .int .i64 a, .int .i64 b, .func (.func 47) #[.int .i64 o] #[]] w fun e w' => e = .returned (.tuple #[]) ∧ SWK encR 3 w0 blk off (heapSort (ltOf (rcmp o)) d a b) w' := by
  have h := heapM o ho blk off cap a b d w (rowk_up R S hs) hab (by omega) (by omega)
  rw [hs] at h
  exact h.mono fun _ _ x => ⟨x.1, swk_up R S x.2 (heapSort_holds (swo_rcmp o) d a b (by omega) (by omega)).1.1⟩
theorem breakW (blk off cap : Nat) (d0 : Array (Int × Int × Int)) (w0 : World) (R : RowK encR 3 w0 blk off d0) (hsz : d0.size < 1048576) (a b : Nat) (d : Array (Int × Int × Int)) (w : World) (hs : d.size = d0.size) (S : SWK encR 3 w0 blk off d w) (fv : Value) (hab : a + 8 ≤ b) (hb : b ≤ d0.size) : Calls Tryz.prog 104 #[.slice (some ⟨blk, off, none⟩) d0.size cap, .int .i64 a, .int .i64 b, fv] w fun e w' => e = .returned (.tuple #[]) ∧ SWK encR 3 w0 blk off (breakPatterns d a b) w' := by
  obtain ⟨L, rfl⟩ : ∃ L, b = a + L := ⟨b - a, by omega⟩
  have h := breakM fv blk off cap a L d w (rowk_up R S hs) (by omega) (by omega) (by omega)
  rw [hs] at h
  exact h.mono fun _ _ x => ⟨x.1, swk_up R S x.2 (step_break d (show a ≤ a + L by omega) (by omega) True).1⟩
theorem pivW (o : Nat) (ho : o < 6) (blk off cap : Nat) (d0 : Array (Int × Int × Int)) (w0 : World) (R : RowK encR 3 w0 blk off d0) (hsz : d0.size < 1048576) (a b : Nat) (d : Array (Int × Int × Int)) (w : World) (hs : d.size = d0.size) (S : SWK encR 3 w0 blk off d w) (hab : a + 8 ≤ b) (hb : b ≤ d0.size) : Calls Tryz.prog 105 #[.slice (some ⟨blk, off, none⟩) d0.size cap, .int .i64 a, .int .i64 b, .func (.func 47) #[.int .i64 o] #[]] w fun e w' => e = .returned (.tuple #[.int .i64 (choosePivot (ltOf (rcmp o)) d a b).1, .int .i64 (hintCode (choosePivot (ltOf (rcmp o)) d a b).2)]) ∧ SWK encR 3 w0 blk off d w' := by
  have h := pivM o ho blk off cap a b d w (rowk_up R S hs) hab (by omega) (by omega)
  rw [hs] at h
  exact h.mono fun _ _ x => ⟨x.1, swk_up R S x.2 rfl⟩
theorem revW (blk off cap : Nat) (d0 : Array (Int × Int × Int)) (w0 : World) (R : RowK encR 3 w0 blk off d0) (hsz : d0.size < 1048576) (a b : Nat) (d : Array (Int × Int × Int)) (w : World) (hs : d.size = d0.size) (S : SWK encR 3 w0 blk off d w) (fv : Value) (hab : a ≤ b) (hb : b ≤ d0.size) : Calls Tryz.prog 106 #[.slice (some ⟨blk, off, none⟩) d0.size cap, .int .i64 a, .int .i64 b, fv] w fun e w' => e = .returned (.tuple #[]) ∧ SWK encR 3 w0 blk off (reverseRange d a b) w' := by
  have h := revM fv blk off cap a b d w (rowk_up R S hs) hab (by omega) (by omega)
  rw [hs] at h
  exact h.mono fun _ _ x => ⟨x.1, swk_up R S x.2 (reverseRange_holds d a b hab (by omega)).1⟩
theorem partInsW (o : Nat) (ho : o < 6) (blk off cap : Nat) (d0 : Array (Int × Int × Int)) (w0 : World) (R : RowK encR 3 w0 blk off d0) (hsz : d0.size < 1048576) (a b : Nat) (d : Array (Int × Int × Int)) (w : World) (hs : d.size = d0.size) (S : SWK encR 3 w0 blk off d w) (hab : a < b) (hb : b ≤ d0.size) (hB : Go.Sort.Below (ltOf (rcmp o)) a b d) : Calls Tryz.prog 107 #[.slice (some ⟨blk, off, none⟩) d0.size cap, .int .i64 a, .int .i64 b, .func (.func 47) #[.int .i64 o] #[]] w fun e w' => e = .returned (.bool (partialInsertionSort (ltOf (rcmp o)) d a b).2) ∧ SWK encR 3 w0 blk off (partialInsertionSort (ltOf (rcmp o)) d a b).1 w' := by
  have h := partInsM o ho blk off cap a b d w (rowk_up R S hs) hab (by omega) (by omega)
  rw [hs] at h
  exact h.mono fun _ _ x => ⟨x.1, swk_up R S x.2 (partialInsertionSort_holds (swo_rcmp o) d a b hab (by omega) hB).1.1⟩
theorem partEqW (o : Nat) (ho : o < 6) (blk off cap : Nat) (d0 : Array (Int × Int × Int)) (w0 : World) (R : RowK encR 3 w0 blk off d0) (hsz : d0.size < 1048576) (a b : Nat) (d : Array (Int × Int × Int)) (w : World) (hs : d.size = d0.size) (S : SWK encR 3 w0 blk off d w) (pivot mid : Nat) (d4 : Array (Int × Int × Int)) (h1 : a ≤ pivot) (h2 : pivot < b) (hb : b ≤ d0.size) (hx : partitionEqual (ltOf (rcmp o)) d a b pivot = (mid, d4)) (h4 : d4.size = d0.size) : Calls Tryz.prog 108 #[.slice (some ⟨blk, off, none⟩) d0.size cap, .int .i64 a, .int .i64 b, .int .i64 pivot, .func (.func 47) #[.int .i64 o] #[]] w fun e w' => e = .returned (.int .i64 mid) ∧ SWK encR 3 w0 blk off d4 w' := by
  have h := partEqM o ho blk off cap a b pivot d w (rowk_up R S hs) h1 h2 (by omega) (by omega)
  rw [hx, hs] at h
  exact h.mono fun _ _ x => ⟨x.1, swk_up R S x.2 (h4.trans hs.symm)⟩
theorem partW (o : Nat) (ho : o < 6) (blk off cap : Nat) (d0 : Array (Int × Int × Int)) (w0 : World) (R : RowK encR 3 w0 blk off d0) (hsz : d0.size < 1048576) (a b : Nat) (d : Array (Int × Int × Int)) (w : World) (hs : d.size = d0.size) (S : SWK encR 3 w0 blk off d w) (pivot mid : Nat) (al : Bool) (d4 : Array (Int × Int × Int)) (h1 : a ≤ pivot) (h2 : pivot < b) (hb : b ≤ d0.size) (hx : Go.Sort.partition (ltOf (rcmp o)) d a b pivot = (mid, al, d4)) (h4 : d4.size = d0.size) : Calls Tryz.prog 109 #[.slice (some ⟨blk, off, none⟩) d0.size cap, .int .i64 a, .int .i64 b, .int .i64 pivot, .func (.func 47) #[.int .i64 o] #[]] w fun e w' => e = .returned (.tuple #[.int .i64 mid, .bool al]) ∧ SWK encR 3 w0 blk off d4 w' := by
  have h := partM o ho blk off cap a b pivot d w (rowk_up R S hs) h1 h2 (by omega) (by omega)
  rw [hx, hs] at h
  exact h.mono fun _ _ x => ⟨x.1, swk_up R S x.2 (h4.trans hs.symm)⟩

/-- One round of pdqsort: what it makes of the row, and what is left to be done. -/
theorem pdq_round (lt : Int × Int × Int → Int × Int × Int → Bool) (hO : SWO lt) (dk : Array (Int × Int × Int)) (a b lim : Nat) (wb wp : Bool) (hb : b ≤ dk.size) (hB : Go.Sort.Below lt a b dk) (h12 : ¬ b - a ≤ 12) (hl0 : ¬ lim = 0) :
    ∃ (d1 : Array (Int × Int × Int)) (lim1 cp : Nat) (ch : Hint) (d2 : Array (Int × Int × Int)) (pivot : Nat) (hint : Hint) (d3 : Array (Int × Int × Int)) (pf : Bool),
      d1.size = dk.size ∧ d2.size = dk.size ∧ d3.size = dk.size ∧ a ≤ cp ∧ cp < b ∧ a ≤ pivot ∧ pivot < b ∧ lim1 ≤ lim ∧
      (wb = false → d1 = breakPatterns dk a b ∧ lim1 = lim - 1) ∧ (wb = true → d1 = dk ∧ lim1 = lim) ∧ choosePivot lt d1 a b = (cp, ch) ∧
      (ch = .decreasing → d2 = reverseRange d1 a b ∧ pivot = b - 1 - (cp - a) ∧ hint = .increasing) ∧ (ch ≠ .decreasing → d2 = d1 ∧ pivot = cp ∧ hint = ch) ∧ Go.Sort.Below lt a b d2 ∧
      ((wb && wp && decide (hint = .increasing)) = true → partialInsertionSort lt d2 a b = (d3, pf)) ∧ ((wb && wp && decide (hint = .increasing)) = false → d3 = d2 ∧ pf = false) ∧
      (pf = true → pdq lt dk a b lim wb wp = d3) ∧
      (pf = false → (decide (a > 0) && !lt d3[a - 1]! d3[pivot]!) = true → ∀ mid d4, partitionEqual lt d3 a b pivot = (mid, d4) → a < mid ∧ mid ≤ b ∧ d4.size = dk.size ∧ Go.Sort.Below lt mid b d4 ∧ pdq lt dk a b lim wb wp = pdq lt d4 mid b lim1 wb wp) ∧
      (pf = false → (decide (a > 0) && !lt d3[a - 1]! d3[pivot]!) = false → ∀ mid al d4, Go.Sort.partition lt d3 a b pivot = (mid, al, d4) → a ≤ mid ∧ mid < b ∧ d4.size = dk.size ∧ Go.Sort.Below lt a mid d4 ∧ Go.Sort.Below lt (mid + 1) b d4 ∧
        (mid - a < b - mid → (pdq lt d4 a mid lim1 true true).size = dk.size ∧ Go.Sort.Below lt (mid + 1) b (pdq lt d4 a mid lim1 true true) ∧ pdq lt dk a b lim wb wp = pdq lt (pdq lt d4 a mid lim1 true true) (mid + 1) b lim1 (decide (mid - a ≥ (b - a) / 8)) al) ∧
        (¬ mid - a < b - mid → (pdq lt d4 (mid + 1) b lim1 true true).size = dk.size ∧ Go.Sort.Below lt a mid (pdq lt d4 (mid + 1) b lim1 true true) ∧ pdq lt dk a b lim wb wp = pdq lt (pdq lt d4 (mid + 1) b lim1 true true) a mid lim1 (decide (b - mid ≥ (b - a) / 8)) al)) := by
  obtain ⟨s1, _, hc1, s2, B2, hpv, s3, B3⟩ := rd_facts (lt := lt) (limit := lim) (wb := wb) (wp := wp) hO partialInsertionSort_holds reverseRange_holds (show a < b by omega) hb hB
  refine ⟨(rd lt dk a b lim wb wp).d1, (rd lt dk a b lim wb wp).lim, (rd lt dk a b lim wb wp).c.1, (rd lt dk a b lim wb wp).c.2, (rd lt dk a b lim wb wp).d2, (rd lt dk a b lim wb wp).pivot, (rd lt dk a b lim wb wp).hint, (rd lt dk a b lim wb wp).pi.1, (rd lt dk a b lim wb wp).pi.2, s1, s2, s3, hc1.1, hc1.2, hpv.1, hpv.2, rd_lim_le, ?_, ?_, rfl, rd_dec, rd_not, B2, ?_, ?_, pdq_done h12 hl0, ?_, ?_⟩
  · rintro rfl
    exact rd_false
  · rintro rfl
    exact rd_true
  · intro h
    rw [← rd_pi_yes h]
  · intro h
    rw [rd_pi_no h]
    exact ⟨rfl, rfl⟩
  · intro hp h87 mid d4 hx
    have h87' := h87
    simp only [Bool.and_eq_true, decide_eq_true_eq, Bool.not_eq_true'] at h87'
    obtain ⟨r1, r2, r3, r4, _⟩ := round_eq hO (partitionEqual_holds lt) h87'.1 hpv.1 hpv.2 (show b ≤ (rd lt dk a b lim wb wp).pi.1.size by omega) B3 h87'.2 hx
    refine ⟨r1, r2, r3.trans s3, r4, ?_⟩
    rw [pdq_eq h12 hl0 hp h87 (by rw [hx]; exact ⟨r1, r2⟩), hx]
  · intro hp h87 mid al d4 hx
    obtain ⟨r1, r2, r3, r4, r5, r6, r7⟩ := round_part hO (partition_holds lt) hpv.1 hpv.2 (show b ≤ (rd lt dk a b lim wb wp).pi.1.size by omega) B3 hx
    have s4 : d4.size = dk.size := r3.trans s3
    refine ⟨r1, r2, s4, r4, r5, fun h4 => ?_, fun h4 => ?_⟩
    · obtain ⟨pL, sL⟩ := pdq_sorts lt hO d4 a mid (rd lt dk a b lim wb wp).lim true true r1 (by omega) r4
      refine ⟨pL.1.trans s4, (r6 _ pL sL).1, ?_⟩
      rw [pdq_left h12 hl0 hp h87 (by rw [hx]; exact ⟨r1, r2⟩) (by rw [hx]; exact h4), hx]
    · obtain ⟨pL, sL⟩ := pdq_sorts lt hO d4 (mid + 1) b (rd lt dk a b lim wb wp).lim true true (by omega) (by omega) r5
      refine ⟨pL.1.trans s4, (r7 _ pL sL).1, ?_⟩
      rw [pdq_right h12 hl0 hp h87 (by rw [hx]; exact ⟨r1, r2⟩) (by rw [hx]; exact h4), hx]
end Go.Proofs.YtobnpfcgcoooeaaGreatDoor
