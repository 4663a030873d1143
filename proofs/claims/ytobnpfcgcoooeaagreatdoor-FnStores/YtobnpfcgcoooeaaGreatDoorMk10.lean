/- Texts put together: StrI StrJ StsA StsK StqB -/
import Derived.Test.YtobnpfcgcoooeaaGreatDoorMk05
import Derived.Test.YtobnpfcgcoooeaaGreatDoorMk09
import Derived.Deep.RegionHeld3
import Derived.Deep.CutRange
import Derived.Shelf.SlSortCmp.KitK
import Derived.Deep.AppendLies
import Derived.ChangeKeysEq
import Derived.Test.YtobnpfcgcoooeaaGreatDoorMk02
import Derived.Test.YtobnpfcgcoooeaaGreatDoorMk06
/- StrI -/
namespace Go.Proofs.YtobnpfcgcoooeaaGreatDoor
open Go.RowKit Go.Deep
set_option maxRecDepth 100000

theorem numbers_any (o : Nat) (x : Int × Int × Int) (w : World) (ho : o < 6) :
    Calls Tryz.prog 79 #[.int .i64 o, .agg #[.int .i64 x.1, .int .i64 x.2.1, .int .i64 x.2.2]] w fun e w' => e = .returned (.agg #[.int .i64 (rkey o x).1, .int .i64 (rkey o x).2.1, .int .i64 (rkey o x).2.2]) ∧ ∃ o1 o2, w' = (w.alloc o1).alloc o2 := by
  have ho' : o = 0 ∨ o = 1 ∨ o = 2 ∨ o = 3 ∨ o = 4 ∨ o = 5 := by omega
  clear ho
  rcases ho' with rfl | rfl | rfl | rfl | rfl | rfl
  all_goals
    go_enter Tryz.func79, Tryz.ntmps79
    go_wp2
    simp [bodyPost, results, Tryz.results79, go_sem, rkey]
    exact ⟨_, _, rfl⟩

/-- Numbers in a row. -/
def Ints (w : World) (b off : Nat) (xs : List Int) : Prop := ∀ i, i < xs.length → w.cell? ⟨b, off + i, none⟩ = some (.int .i64 (xs[i]?.getD 0))
/-- Two lists of numbers, the first that tells. -/
def lexI : List Int → List Int → Int
  | x :: xs, y :: ys => orI (cmpI x y) (lexI xs ys)
  | _, _ => 0
theorem lexI_at : ∀ (k : Nat) (xs ys : List Int), xs.length = ys.length → k < xs.length → (∀ j, j < k → xs[j]?.getD 0 = ys[j]?.getD 0) → cmpI (xs[k]?.getD 0) (ys[k]?.getD 0) ≠ 0 → lexI xs ys = cmpI (xs[k]?.getD 0) (ys[k]?.getD 0)
  | _, [], _, _, hk, _, _ => by simp at hk
  | _, _ :: _, [], hl, _, _, _ => by simp at hl
  | 0, x :: xs, y :: ys, _, _, _, hne => by
    simp at hne
    simp [lexI, orI, hne]
  | k + 1, x :: xs, y :: ys, hl, hk, h, hne => by
    have h0 : x = y := by simpa using h 0 (by omega)
    have := lexI_at k xs ys (by simpa using hl) (by simpa using hk) (fun j hj => by simpa using h (j + 1) (by omega)) (by simpa using hne)
    simp only [lexI, orI]
    rw [if_pos (cmpI_eq h0), this]
    simp
theorem lexI_same : ∀ (xs ys : List Int), xs.length = ys.length → (∀ j, j < xs.length → xs[j]?.getD 0 = ys[j]?.getD 0) → lexI xs ys = 0
  | [], _, _, _ => by simp [lexI]
  | _ :: _, [], hl, _ => by simp at hl
  | x :: xs, y :: ys, hl, h => by
    have h0 : x = y := by simpa using h 0 (by simp)
    simp only [lexI, orI]
    rw [if_pos (cmpI_eq h0)]
    exact lexI_same xs ys (by simpa using hl) (fun j hj => by simpa using h (j + 1) (by simpa using hj))

theorem sliceCompare_any (b off cap b' off' cap' : Nat) (xs ys : List Int) (w : World) (hl : xs.length = ys.length) (hn : xs.length ≤ 1048576) (hX : Ints w b off xs) (hY : Ints w b' off' ys) :
    Calls Tryz.prog 80 #[.slice (some ⟨b, off, none⟩) xs.length cap, .slice (some ⟨b', off', none⟩) xs.length cap'] w fun e w' => e = .returned (.int .i64 (lexI xs ys)) ∧ w' = w := by
  obtain ⟨n, hnn⟩ : ∃ n, n = xs.length := ⟨_, rfl⟩
  have HN : Hid (n = xs.length) := hnn
  have HL : Hid (xs.length = ys.length) := hl
  have HX : Hid (∀ i, i < n → w.cell? ⟨b, off + i, none⟩ = some (.int .i64 (xs[i]?.getD 0))) := fun i hi => hX i (by omega)
  have HY : Hid (∀ i, i < n → w.cell? ⟨b', off' + i, none⟩ = some (.int .i64 (ys[i]?.getD 0))) := fun i hi => hY i (by omega)
  rw [← hnn] at hn ⊢
  obtain ⟨r, hr⟩ : ∃ r, r = lexI xs ys := ⟨_, rfl⟩
  have HR : Hid (r = lexI xs ys) := hr
  rw [← hr]
  clear hnn hl hX hY hr
  go_enter Tryz.func80, Tryz.ntmps80
  go_wp2_with fail
  go_loop [11] (fun i => ∃ k : Nat, k ≤ n ∧ i = .int .i64 k ∧ Hid (∀ j, j < k → xs[j]?.getD 0 = ys[j]?.getD 0)) (fun i => n - (intOf i).toNat)
  case atStart => exact ⟨0, Nat.zero_le _, rfl, fun j hj => by omega⟩
  case round =>
    obtain ⟨k, hk, rfl, HE⟩ := hrel
    by_cases hlk : k < n
    · have hx := HX.out k hlk
      have hy := HY.out k hlk
      go_wp2_with fail
      refine (cmpInt_any _ _ _).mono ?_
      rintro e w1 ⟨rfl, rfl⟩
      by_cases hc : cmpI (xs[k]?.getD 0) (ys[k]?.getD 0) = 0
      · have hc' : (cmpI (xs[k]?.getD 0) (ys[k]?.getD 0) != 0) = false := by simp [hc]
        have hee : xs[k]?.getD 0 = ys[k]?.getD 0 := cmpI_zero hc
        have HEE : Hid (xs[k]?.getD 0 = ys[k]?.getD 0) := hee
        clear hc hee hx hy
        go_wp2_with fail
        go_round
        case rel =>
          refine ⟨k + 1, by omega, by go_num, fun j hj => ?_⟩
          by_cases e : j = k
          · subst e; exact HEE.out
          · exact HE.out j (by omega)
        case measure => simp [intOf]; omega
      · have hc' : (cmpI (xs[k]?.getD 0) (ys[k]?.getD 0) != 0) = true := by simp [hc]
        have hrr : r = cmpI (xs[k]?.getD 0) (ys[k]?.getD 0) := by
          rw [HR.out]
          exact lexI_at k xs ys HL.out (by rw [← HN.out]; exact hlk) HE.out hc
        have HRR : Hid (r = cmpI (xs[k]?.getD 0) (ys[k]?.getD 0)) := hrr
        clear hrr hc hx hy
        go_wp2_with fail
        go_ret
        exact ⟨by rw [HRR.out]; rfl, rfl⟩
    · obtain rfl : k = n := by omega
      have hrr : r = 0 := by
        rw [HR.out]
        exact lexI_same xs ys HL.out (fun j hj => HE.out j (by rw [HN.out]; exact hj))
      subst hrr
      go_wp2_with fail
      go_ret
      exact ⟨rfl, rfl⟩
end Go.Proofs.YtobnpfcgcoooeaaGreatDoor

/- StrJ -/
namespace Go.Proofs.YtobnpfcgcoooeaaGreatDoor
open Go.RowKit Go.Deep
set_option maxRecDepth 100000

theorem lexI_rcmp (o : Nat) (x y : Int × Int × Int) : lexI [(rkey o x).1, (rkey o x).2.1, (rkey o x).2.2] [(rkey o y).1, (rkey o y).2.1, (rkey o y).2.2] = rcmp o x y := by
  simp only [lexI, rcmp, orI]
  split
  · split
    · split <;> simp_all
    · rfl
  · rfl
/-- Three numbers in a block. -/
def Arr3 (w : World) (g : Nat) (x : Int × Int × Int) : Prop := g < w.heap.size ∧ w.cell? ⟨g, 0, none⟩ = some (.int .i64 x.1) ∧ w.cell? ⟨g, 1, none⟩ = some (.int .i64 x.2.1) ∧ w.cell? ⟨g, 2, none⟩ = some (.int .i64 x.2.2)
theorem Arr3.ints {w : World} {g : Nat} {x : Int × Int × Int} (h : Arr3 w g x) : Ints w g 0 [x.1, x.2.1, x.2.2] := by
  intro i hi
  have : i = 0 ∨ i = 1 ∨ i = 2 := by simp at hi; omega
  rcases this with rfl | rfl | rfl
  · exact h.2.1
  · exact h.2.2.1
  · exact h.2.2.2

set_option maxHeartbeats 4000000 in
theorem rowCompare_any (o : Nat) (x y : Int × Int × Int) (w : World) (ho : o < 6) :
    Calls Tryz.prog 47 #[.int .i64 o, .agg #[.int .i64 x.1, .int .i64 x.2.1, .int .i64 x.2.2], .agg #[.int .i64 y.1, .int .i64 y.2.1, .int .i64 y.2.2]] w fun e w' => e = .returned (.int .i64 (rcmp o x y)) ∧ Gr w w' := by
  have N1 := fun w => numbers_any o x w ho
  have N2 := fun w => numbers_any o y w ho
  have CM := fun (g g' : Nat) (w : World) (h : Arr3 w g (rkey o x)) (h' : Arr3 w g' (rkey o y)) => sliceCompare_any g 0 3 g' 0 3 [(rkey o x).1, (rkey o x).2.1, (rkey o x).2.2] [(rkey o y).1, (rkey o y).2.1, (rkey o y).2.2] w rfl (by simp) h.ints h'.ints
  rw [lexI_rcmp] at CM
  generalize rkey o x = p at *
  generalize rkey o y = q at *
  generalize rcmp o x y = r at *
  have HCM : Hid (∀ (g g' : Nat) (w : World), Arr3 w g p → Arr3 w g' q → Calls Tryz.prog 80 #[.slice (some ⟨g, 0, none⟩) 3 3, .slice (some ⟨g', 0, none⟩) 3 3] w fun e w' => e = .returned (.int .i64 r) ∧ w' = w) := CM
  clear CM
  go_enter Tryz.func47, Tryz.ntmps47
  go_upto_region 1 with fail
  go_cut [7, 8] from 9 to 17 (fun s7 s8 wx => ∃ g7 g8 : Nat, s7 = .pointer (some ⟨g7, 0, none⟩) ∧ s8 = .pointer (some ⟨g8, 0, none⟩) ∧ Gr w wx ∧ Arr3 wx g7 p ∧ Arr3 wx g8 q)
  case first =>
    have tok1 : True := trivial
    go_region_held3 (fun w' => w'.cell? ⟨w.heap.size, 0, none⟩ = some (.int .i64 x.1) ∧ w'.cell? ⟨w.heap.size, 1, none⟩ = some (.int .i64 x.2.1) ∧ w'.cell? ⟨w.heap.size, 2, none⟩ = some (.int .i64 x.2.2) ∧ w'.cell? ⟨w.heap.size + 1, 0, none⟩ = some (.int .i64 y.1) ∧ w'.cell? ⟨w.heap.size + 1, 1, none⟩ = some (.int .i64 y.2.1) ∧ w'.cell? ⟨w.heap.size + 1, 2, none⟩ = some (.int .i64 y.2.2)) (simp [*, go_sem])
      (first
      | (go_at_call 79; have _t := tok1; refine (N1 _).mono ?_; rintro e w1 ⟨rfl, o1, o2, rfl⟩; clear tok1)
      | (go_at_call 79; refine (N2 _).mono ?_; rintro e w2 ⟨rfl, o3, o4, rfl⟩))
    all_goals
      go_wp2_with fail
      go_meet
      refine ⟨_, _, rfl, rfl, ?_, ?_, ?_⟩
      · repeat (first | with_reducible exact Gr.refl _ | with_reducible apply gr_alloc | with_reducible apply gr_drew | with_reducible apply gr_drewN)
      · simp [Arr3, go_sem]
      · simp [Arr3, go_sem]
  case rest =>
    obtain ⟨g7, g8, rfl, rfl, hG, h7, h8⟩ := hcut
    have H7 : Hid (Arr3 wc g7 p) := h7
    have H8 : Hid (Arr3 wc g8 q) := h8
    obtain ⟨_, c0, c1, c2⟩ := h7
    obtain ⟨_, d0, d1, d2⟩ := h8
    clear N1 N2
    go_wp2_with fail
    go_quiet ((go_at_call 80; exact Calls.quiet_of_same (HCM.out g7 g8 _ H7.out H8.out)))
    go_wp2_with fail
    go_ret
    exact ⟨rfl, gr_drewN hG nq⟩
end Go.Proofs.YtobnpfcgcoooeaaGreatDoor

/- StsA -/
namespace Go.Proofs.YtobnpfcgcoooeaaGreatDoor
open Go.RowKit Go.Deep Go.Sort Go.Lib
set_option maxRecDepth 100000

/-- A row's cells. -/
def encR (x : Int × Int × Int) : List Value := [.int .i64 x.1, .int .i64 x.2.1, .int .i64 x.2.2]
theorem encR_len (x : Int × Int × Int) : (encR x).length = 3 := rfl
theorem encR_one (x : Int × Int × Int) : ∀ v ∈ encR x, v.oneCell' = true := by simp [encR, Value.oneCell']

/-- The method value, called: in every world. -/
theorem cmpM (o : Nat) (ho : o < 6) (x y : Int × Int × Int) (W : World) :
    Calls Tryz.prog 47 #[.int .i64 o, .agg #[.int .i64 x.1, .int .i64 x.2.1, .int .i64 x.2.2], .agg #[.int .i64 y.1, .int .i64 y.2.1, .int .i64 y.2.2]] W fun e w' => e = .returned (.int .i64 (rcmp o x y)) ∧ ∃ q os, w' = grow (W.drewN q) os :=
  (rowCompare_any o x y W ho).mono fun _ _ h => ⟨h.1, h.2.grown⟩

/-- A row's three cells. -/
def At3 (W : World) (blk p : Nat) (x : Int × Int × Int) : Prop := W.cell? ⟨blk, p, none⟩ = some (.int .i64 x.1) ∧ W.cell? ⟨blk, p + 1, none⟩ = some (.int .i64 x.2.1) ∧ W.cell? ⟨blk, p + 2, none⟩ = some (.int .i64 x.2.2)
theorem swk_at3 {w W : World} {blk off : Nat} {d dk : Array (Int × Int × Int)} (h : SWK encR 3 w blk off dk W) (R : RowK encR 3 w blk off d) (hs : dk.size = d.size) (i : Nat) (hi : i < dk.size) : At3 W blk (off + i * 3) dk[i]! := by
  have := HoldsK.cells (h.holds R.hblk R.hH hs) R.hk hi
  refine ⟨?_, ?_, ?_⟩
  · simpa [encR, Addr.add_lit] using this 0
  · simpa [encR, Addr.add_lit] using this 1
  · simpa [encR, Addr.add_lit] using this 2

theorem swk_fr3 {w W : World} {blk off : Nat} {d dk : Array (Int × Int × Int)} (h : SWK encR 3 w blk off dk W) (R : RowK encR 3 w blk off d) (hs : dk.size = d.size) (i : Nat) (hi : i < dk.size) : W.frozen? ⟨blk, off + i * 3, none⟩ = false ∧ W.frozen? ⟨blk, off + i * 3 + 1, none⟩ = false ∧ W.frozen? ⟨blk, off + i * 3 + 2, none⟩ = false := by
  have H := h.holds R.hblk R.hH hs
  exact ⟨(H.cell hi (show 0 < 3 by omega)).2, (H.cell hi (show 1 < 3 by omega)).2, (H.cell hi (show 2 < 3 by omega)).2⟩

/-- Two rows exchanged. -/
theorem swk_swp3 {w W : World} {blk off : Nat} {d dk : Array (Int × Int × Int)} (h : SWK encR 3 w blk off dk W) (R : RowK encR 3 w blk off d) (i j : Nat) (hi : i < dk.size) (hj : j < dk.size) {x y : Int × Int × Int} (hx : dk[i]! = x) (hy : dk[j]! = y) :
    SWK encR 3 w blk off (swp dk i j) ((((((W.setCell ⟨blk, off + i * 3, none⟩ (.int .i64 y.1)).setCell ⟨blk, off + i * 3 + 1, none⟩ (.int .i64 y.2.1)).setCell ⟨blk, off + i * 3 + 2, none⟩ (.int .i64 y.2.2)).setCell ⟨blk, off + j * 3, none⟩ (.int .i64 x.1)).setCell ⟨blk, off + j * 3 + 1, none⟩ (.int .i64 x.2.1)).setCell ⟨blk, off + j * 3 + 2, none⟩ (.int .i64 x.2.2)).drew := by
  have := (h.swap R.hk R.hblk i j hi hj).drew
  rw [hx, hy] at this
  exact this

set_option maxHeartbeats 4000000 in
theorem insM (o : Nat) (ho : o < 6) (blk off cap a b : Nat) (d : Array (Int × Int × Int)) (w : World) (R : RowK encR 3 w blk off d) (hab : a ≤ b) (hb : b ≤ d.size) (hsz : d.size < 4611686018427387904) :
    Calls Tryz.prog 102 #[.slice (some ⟨blk, off, none⟩) d.size cap, .int .i64 a, .int .i64 b, .func (.func 47) #[.int .i64 o] #[]] w fun e w' => e = .returned (.tuple #[]) ∧ SWK encR 3 w blk off (Go.Sort.insertionSort (ltOf (rcmp o)) d a b) w' := by
  have HR : Hid (RowK encR 3 w blk off d) := R
  go_enter Tryz.func102, Tryz.ntmps102
  have HC : Hid (∀ x y W, Calls Tryz.prog 47 #[.int .i64 o, .agg #[.int .i64 x.1, .int .i64 x.2.1, .int .i64 x.2.2], .agg #[.int .i64 y.1, .int .i64 y.2.1, .int .i64 y.2.2]] W fun e w' => e = .returned (.int .i64 (rcmp o x y)) ∧ ∃ q os, w' = grow (W.drewN q) os) := cmpM o ho
  clear R ho
  have mixed : Tryz.prog.follows .mixedOrders = true := by kernel_rfl
  go_wp2
  go_loopg [8] (b - a) (fun g1 vi wr => ∃ (i : Nat) (dk : Array (Int × Int × Int)), vi = .int .i64 i ∧ a < i ∧ i ≤ b + 1 ∧ b + 1 - i ≤ g1 + 1 ∧ dk.size = d.size ∧ Hid (SWK encR 3 w blk off dk wr) ∧ Hid (insOuter (ltOf (rcmp o)) a b i dk = insOuter (ltOf (rcmp o)) a b (a + 1) d))
  case atStart => exact ⟨a + 1, d, by go_num, by omega, by omega, by omega, rfl, SWK.start HR.out.hH, rfl⟩
  case round =>
    obtain ⟨i, dk, rfl, hai, hib, hg1, hsk, HS, HO⟩ := hrel
    by_cases hlt : i < b
    · have hltz : (i : Int) < (b : Int) := by omega
      go_wp2
      go_loopg [9] i (fun g2 vj wr2 => ∃ (j : Nat) (dj : Array (Int × Int × Int)), vj = .int .i64 j ∧ a ≤ j ∧ j ≤ i ∧ j ≤ g2 ∧ dj.size = d.size ∧ Hid (SWK encR 3 w blk off dj wr2) ∧ Hid (insInner (ltOf (rcmp o)) a j dj = insInner (ltOf (rcmp o)) a i dk))
      case atStart => exact ⟨i, dk, rfl, by omega, Nat.le_refl _, Nat.le_refl _, hsk, HS, rfl⟩
      case round =>
        obtain ⟨j, dj, rfl, haj, hji, hg2, hsj, HS2, HI⟩ := hrel
        have OUT : Aside ((j ≤ a ∨ ltOf (rcmp o) dj[j]! dj[j - 1]! = false) → insOuter (ltOf (rcmp o)) a b (i + 1) dj = insOuter (ltOf (rcmp o)) a b (a + 1) d) := fun hs => by
          rw [← HO.out, insOuter_go _ _ _ _ _ hlt, ← HI.out, insInner_stop _ _ _ _ hs]
        by_cases hja : a < j
        · have hjaz : (a : Int) < (j : Int) := by omega
          obtain ⟨jp, rfl⟩ : ∃ jp, j = jp + 1 := ⟨j - 1, by omega⟩
          obtain ⟨xj, hxj⟩ : ∃ x, dj[jp + 1]! = x := ⟨_, rfl⟩
          obtain ⟨xp, hxp⟩ : ∃ x, dj[jp]! = x := ⟨_, rfl⟩
          have hwp : IntKind.i64.wrap (jp : Int) = (jp : Int) := by rw [IntKind.wrap_i64]; omega
          have jz : (jp : Int) + 1 < (d.size : Int) := by omega
          have jz1 : (jp : Int) < (d.size : Int) := by omega
          have hjaz' : (a : Int) < (jp : Int) + 1 := by omega
          have p0 : (0 : Int) ≤ (jp : Int) + 1 := by omega
          have e0 : ((jp : Int) + 1).toNat = jp + 1 := by omega
          have hL := fun n os => swk_at3 (HS2.out.grown n os) HR.out hsj (jp + 1) (by omega)
          have hP := fun n os => swk_at3 (HS2.out.grown n os) HR.out hsj jp (by omega)
          rw [hxj] at hL
          rw [hxp] at hP
          have l0 := fun n os => (hL n os).1
          have l1 := fun n os => (hL n os).2.1
          have l2 := fun n os => (hL n os).2.2
          have q0 := fun n os => (hP n os).1
          have q1 := fun n os => (hP n os).2.1
          have q2 := fun n os => (hP n os).2.2
          have hcg := fun n os => HC.out xj xp (grow (wr.drewN n) os)
          clear hL hP
          by_cases hlv : rcmp o xj xp < 0
          · go_wp2_with fail
            go_quiet_grown (first | (go_at_call 47; refine Calls.grown_of (hcg _ _)))
            go_wp2_with fail
            have HS3 : Hid (SWK encR 3 w blk off dj (grow (wr.drewN nq) osq)) := HS2.out.grown nq osq
            clear l0 l1 l2 q0 q1 q2 hcg HC
            generalize grow (wr.drewN nq) osq = wq at HS3 ⊢
            obtain ⟨l0, l1, l2⟩ := hxj ▸ swk_at3 HS3.out HR.out hsj (jp + 1) (by omega)
            obtain ⟨q0, q1, q2⟩ := hxp ▸ swk_at3 HS3.out HR.out hsj jp (by omega)
            obtain ⟨z0, z1, z2⟩ := swk_fr3 HS3.out HR.out hsj (jp + 1) (by omega)
            obtain ⟨y0, y1, y2⟩ := swk_fr3 HS3.out HR.out hsj jp (by omega)
            go_big_region_o
            all_goals go_wp2
            go_roundg jp
            case measure => omega
            case rel =>
              refine ⟨jp, swp dj (jp + 1) jp, by first | rfl | go_num, by omega, by omega, Nat.le_refl _, by rw [size_swp]; exact hsj, swk_swp3 HS3.out HR.out (jp + 1) jp (by omega) (by omega) hxj hxp, (show Hid _ from ?_)⟩
              show _ = _
              have := insInner_go (ltOf (rcmp o)) a (jp + 1) dj hja (by simp only [Nat.add_sub_cancel]; rw [hxj, hxp]; exact decide_eq_true hlv)
              simp only [Nat.add_sub_cancel] at this
              rw [← HI.out, this]
          · go_wp2_with fail
            go_quiet_grown (first | (go_at_call 47; refine Calls.grown_of (hcg _ _)))
            go_wp2
            go_roundg (b - (i + 1))
            case measure => omega
            case rel => exact ⟨i + 1, dj, by go_num, by omega, by omega, by omega, hsj, HS2.out.grown nq osq, OUT.out (Or.inr (by simp only [Nat.add_sub_cancel]; rw [hxj, hxp]; exact decide_eq_false (by omega)))⟩
        · have hjaz : decide ((j : Int) > (a : Int)) = false := decide_eq_false (by omega)
          have hjaz' : ¬ (a : Int) < (j : Int) := by omega
          go_wp2_with fail
          go_big_region_o
          all_goals go_wp2
          go_roundg (b - (i + 1))
          case measure => omega
          case rel => exact ⟨i + 1, dj, by go_num, by omega, by omega, by omega, hsj, HS2.out.drew, OUT.out (Or.inl (by omega))⟩
    · have hltz : ¬ (i : Int) < (b : Int) := by omega
      go_wp2
      go_end0
      refine ⟨rfl, ?_⟩
      have := HO.out
      rw [insOuter_stop _ _ _ _ _ hlt] at this
      unfold Go.Sort.insertionSort
      rw [← this]
      exact HS.out
end Go.Proofs.YtobnpfcgcoooeaaGreatDoor

/- StsK -/
namespace Go.Proofs.YtobnpfcgcoooeaaGreatDoor
open Go.RowKit Go.Deep Go.Sort Go.Lib
set_option maxRecDepth 100000

theorem flatMap_len {α : Type} (enc : α → List Value) (k : Nat) (hk : ∀ x, (enc x).length = k) (l : List α) : (l.flatMap enc).length = l.length * k := by
  induction l with
  | nil => simp
  | cons x l ih => rw [List.flatMap_cons, List.length_append, ih, hk, List.length_cons, Nat.add_mul, Nat.one_mul, Nat.add_comm]
theorem flatMap_get {α : Type} (enc : α → List Value) (k : Nat) (hk : ∀ x, (enc x).length = k) (l : List α) (i c : Nat) (hi : i < l.length) (hc : c < k) : (l.flatMap enc)[i * k + c]? = (enc l[i])[c]? := by
  induction l generalizing i with
  | nil => cases hi
  | cons x l ih =>
    rw [List.flatMap_cons]
    cases i with
    | zero => rw [List.getElem?_append_left (by rw [hk]; omega)]; simp
    | succ i =>
      rw [List.getElem?_append_right (by rw [hk, Nat.add_mul]; omega)]
      have : (i + 1) * k + c - (enc x).length = i * k + c := by rw [hk, Nat.add_mul]; omega
      rw [this, ih i (by simpa using hi)]
      rfl
theorem flatMap_flatK {α : Type} [Inhabited α] (enc : α → List Value) (k : Nat) (hk : ∀ x, (enc x).length = k) (l : List α) : (flatK enc k l.toArray).toList = l.flatMap enc := by
  apply List.ext_getElem?
  intro j
  by_cases hj : j < l.length * k
  · have k0 : 0 < k := by
      rcases Nat.eq_zero_or_pos k with h | h
      · subst h; omega
      · exact h
    have hi : j / k < l.length := by rw [Nat.div_lt_iff_lt_mul k0]; exact hj
    have hc : j % k < k := Nat.mod_lt _ k0
    have h1 : (flatK enc k l.toArray)[j]! = (enc l.toArray[j / k]!)[j % k]! := get_flatK enc k l.toArray j (by simpa using hj)
    have hjs : j < (flatK enc k l.toArray).size := by rw [size_flatK]; simpa using hj
    rw [getElem!_pos _ j hjs, getElem!_pos l.toArray (j / k) (by simpa using hi)] at h1
    have h2 := flatMap_get enc k hk l (j / k) (j % k) hi hc
    rw [Nat.mul_comm, Nat.div_add_mod] at h2
    rw [h2, Array.getElem?_toList, Array.getElem?_eq_getElem hjs, h1]
    simp only [List.getElem_toArray]
    rw [getElem!_pos _ (j % k) (by rw [hk]; exact hc), List.getElem?_eq_getElem (by rw [hk]; exact hc)]
  · rw [List.getElem?_eq_none (by simp; omega), List.getElem?_eq_none (by rw [flatMap_len enc k hk]; omega)]
/-- A row of the call's own, as the sort wants it. -/
theorem holdsK_own {α : Type} [Inhabited α] (enc : α → List Value) (k : Nat) (hk : ∀ x, (enc x).length = k) {w : World} {g : Nat} {T : TypeId} {cur : Array Value} {l : List α} (hh : w.heap[g]? = some (.cells cur T (0, 0))) (htk : cur.toList.take (l.length * k) = l.flatMap enc) : HoldsK enc k w g 0 l.toArray := by
  intro j hj
  have hj' : j < l.length * k := by simpa using hj
  have hjs : j < (flatK enc k l.toArray).size := hj
  have h1 : (flatK enc k l.toArray).toList[j]? = some (flatK enc k l.toArray)[j]! := by rw [Array.getElem?_toList, Array.getElem?_eq_getElem hjs, getElem!_pos _ j hjs]
  rw [flatMap_flatK enc k hk, ← htk, List.getElem?_take, if_pos hj'] at h1
  refine ⟨?_, ?_⟩
  · simp only [World.cell?, hh, Nat.zero_add]
    simpa using h1
  · simp [World.frozen?, hh]
/-- .. and what the sort has left of it. -/
theorem own_swk {α : Type} [Inhabited α] (enc : α → List Value) (k : Nat) (hk : ∀ x, (enc x).length = k) {w w' : World} {g : Nat} {T : TypeId} {cur : Array Value} {d' : Array α} (S : SWK enc k w g 0 d' w') (hh : w.heap[g]? = some (.cells cur T (0, 0))) (hg : g < w.heap.size) (hsz : d'.size * k ≤ cur.size) :
    ∃ cur', w'.heap[g]? = some (.cells cur' T (0, 0)) ∧ cur'.size = cur.size ∧ cur'.toList.take (d'.size * k) = d'.toList.flatMap enc := by
  obtain ⟨m, os, rfl⟩ := S
  refine ⟨putCells id 0 (flatK enc k d') cur, ?_, by simp [putCells], ?_⟩
  · unfold sortWorldK
    rw [heap_grow_old _ _ (by rw [size_putRowK]; exact hg)]
    show (w.heap.modify g (onCells (putCells id 0 (flatK enc k d'))))[g]? = _
    rw [Array.getElem?_modify, if_pos rfl, hh]
    rfl
  · have e := flatMap_flatK enc k hk d'.toList
    rw [← e]
    apply List.ext_getElem?
    intro j
    rw [List.getElem?_take]
    simp only [Array.toArray_toList]
    split
    · rename_i hj
      have hjs : j < (flatK enc k d').size := by rw [size_flatK]; exact hj
      rw [Array.getElem?_toList, Array.getElem?_toList, Array.getElem?_eq_getElem hjs]
      simp only [putCells, Array.getElem?_mapIdx, Array.getElem?_eq_getElem (show j < cur.size by omega), Option.map_some]
      rw [if_pos (by omega), Nat.sub_zero, getElem!_pos _ j hjs]
      rfl
    · rename_i hj
      rw [List.getElem?_eq_none (by rw [Array.length_toList, size_flatK]; omega)]
/-- Nothing below is changed. -/
theorem below_swk {α : Type} [Inhabited α] (enc : α → List Value) (k : Nat) {w w' : World} {g B : Nat} {d' : Array α} (S : SWK enc k w g 0 d' w') (hB : B ≤ g) (hg : g < w.heap.size) : Below B w w' := by
  have hs := S.le
  obtain ⟨m, os, rfl⟩ := S
  refine ⟨rfl, rfl, rfl, hs, fun b hb => ?_⟩
  unfold sortWorldK
  rw [heap_grow_old _ _ (by rw [size_putRowK]; show b < w.heap.size; omega)]
  show (w.heap.modify g (onCells (putCells id 0 (flatK enc k d'))))[b]? = _
  rw [Array.getElem?_modify, if_neg (by omega)]
/-- The cells of a row of rows of numbers. -/
def flat3 (l : List (Int × Int × Int)) : List Value := l.flatMap encR
theorem flat3_len (l : List (Int × Int × Int)) : (flat3 l).length = l.length * 3 := flatMap_len encR 3 encR_len l
theorem flat3_append (l m : List (Int × Int × Int)) : flat3 (l ++ m) = flat3 l ++ flat3 m := by simp [flat3]
theorem flat3_get (l : List (Int × Int × Int)) (i c : Nat) (hi : i < l.length) (hc : c < 3) : (flat3 l)[i * 3 + c]? = (encR l[i])[c]? := flatMap_get encR 3 encR_len l i c hi hc
theorem flat3_one (l : List (Int × Int × Int)) : ∀ u ∈ flat3 l, u.oneCell' = true := by
  intro u hu
  obtain ⟨x, _, hx⟩ := List.mem_flatMap.1 hu
  exact encR_one x u hx
/-- Rows of numbers behind an address. -/
def RRow (w : World) (a : Option Addr) (l : List (Int × Int × Int)) : Prop := (a = none ∧ l = []) ∨ ∃ b off, a = some ⟨b, off, none⟩ ∧ b < w.heap.size ∧ ∀ j u, (flat3 l)[j]? = some u → w.cell? ⟨b, off + j, none⟩ = some u
theorem RRow.below {w w' : World} {a : Option Addr} {l : List (Int × Int × Int)} (h : RRow w a l) (hb : Below w.heap.size w w') : RRow w' a l := by
  rcases h with h | ⟨b, off, ha, hl, hc⟩
  · exact .inl h
  · exact .inr ⟨b, off, ha, Nat.lt_of_lt_of_le hl hb.size, fun j u hu => (hb.cell (p := ⟨b, off + j, none⟩) hl).trans (hc j u hu)⟩
/-- Rows of numbers of the call's own, or none as yet. -/
def OwnRR (w : World) (B : Nat) (v : Value) (l : List (Int × Int × Int)) : Prop := w.ownsRow B 45 3 v l.length (flat3 l) ∧ ∀ g, v.ownBlock = some g → B ≤ g ∧ g < w.heap.size
theorem OwnRR.nil (w : World) (B : Nat) : OwnRR w B (.slice none 0 0) [] := ⟨World.ownsRow_nil _ _ _ _, fun g h => by cases h⟩
theorem OwnRR.base {w : World} {B B' : Nat} {v : Value} {l : List (Int × Int × Int)} (h : OwnRR w B' v l) (hB : B ≤ B') : OwnRR w B v l := by
  obtain ⟨⟨h1, h2⟩, hl⟩ := h
  refine ⟨⟨h1, ?_⟩, fun g hg => ⟨Nat.le_trans hB (hl g hg).1, (hl g hg).2⟩⟩
  rcases h2 with h2 | ⟨g, c, cur, hv, hb, r⟩
  · exact .inl h2
  · exact .inr ⟨g, c, cur, hv, Nat.le_trans hB hb, r⟩
theorem OwnRR.below {w w' : World} {B : Nat} {v : Value} {l : List (Int × Int × Int)} (h : OwnRR w B v l) (hb : Below w.heap.size w w') : OwnRR w' B v l := by
  obtain ⟨⟨h1, h2⟩, hl⟩ := h
  refine ⟨⟨h1, ?_⟩, fun g hg => ⟨(hl g hg).1, Nat.lt_of_lt_of_le (hl g hg).2 hb.size⟩⟩
  rcases h2 with h2 | ⟨g', cap', cur, hv, hB, hh, r⟩
  · exact .inl h2
  · refine .inr ⟨g', cap', cur, hv, hB, ?_, r⟩
    have := (hl g' (by rw [hv]; rfl)).2
    rw [hb.block g' this]
    exact hh
theorem OwnRR.form {w : World} {B : Nat} {v : Value} {l : List (Int × Int × Int)} (h : OwnRR w B v l) : ∃ a cap, v = .slice a l.length cap ∧ RRow w a l ∧ l.length ≤ cap := by
  rcases h.1.2 with ⟨rfl, h0⟩ | ⟨g, cap, cur, rfl, hB, hh, hle, _, hsz, htk⟩
  · have := List.eq_nil_of_length_eq_zero h0
    subst this
    exact ⟨none, 0, rfl, .inl ⟨rfl, rfl⟩, by simp⟩
  · have hlt := (h.2 g rfl).2
    refine ⟨some ⟨g, 0, none⟩, cap, rfl, .inr ⟨g, 0, rfl, hlt, fun j u hu => ?_⟩, hle⟩
    rw [Nat.zero_add]
    have hj : j < l.length * 3 := by
      apply Classical.byContradiction
      intro hn
      rw [List.getElem?_eq_none (by rw [flat3_len]; omega)] at hu
      cases hu
    rw [← htk, List.getElem?_take, if_pos hj] at hu
    simp only [World.cell?, hh]
    simpa using hu

theorem Tryz.info45 : (Tryz.prog.info? 45).map (fun i => (i.zero, i.size, i.bytes)) = some (some (.agg #[.int .i64 0, .int .i64 0, .int .i64 0]), 3, 24) := by kernel_rfl

end Go.Proofs.YtobnpfcgcoooeaaGreatDoor

/- StqB -/
namespace Go.Proofs.YtobnpfcgcoooeaaGreatDoor
open Go.RowKit Go.Deep Go.Sort Go.Lib
set_option maxRecDepth 100000

theorem OwnRR.but {w w' : World} {B c : Nat} {v : Value} {l : List (Int × Int × Int)} (h : OwnRR w B v l) (hb : But c w w') (hc : ∀ g, v.ownBlock = some g → g ≠ c) : OwnRR w' B v l := by
  obtain ⟨⟨h1, h2⟩, hl⟩ := h
  refine ⟨⟨h1, ?_⟩, fun g hg => ⟨(hl g hg).1, by rw [hb.size]; exact (hl g hg).2⟩⟩
  rcases h2 with h2 | ⟨g', cap', cur, hv, hB, hh, r⟩
  · exact .inl h2
  · refine .inr ⟨g', cap', cur, hv, hB, ?_, r⟩
    rw [hb.block g' (hc g' (by rw [hv]; rfl))]
    exact hh
end Go.Proofs.YtobnpfcgcoooeaaGreatDoor
