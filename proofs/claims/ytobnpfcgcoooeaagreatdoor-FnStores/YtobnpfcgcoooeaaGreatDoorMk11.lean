/- Texts put together: StqC StqD -/
import Derived.Test.YtobnpfcgcoooeaaGreatDoorMk09
import Derived.Test.YtobnpfcgcoooeaaGreatDoorMk10
/- StqC -/
namespace Go.Proofs.YtobnpfcgcoooeaaGreatDoor
open Go.RowKit Go.Deep
set_option maxRecDepth 100000

theorem isOver_any (r : Int × Int × Int) (a : Option Addr) (n cap : Nat) (w : World) :
    Calls Tryz.prog 48 #[.agg #[.int .i64 r.1, .int .i64 r.2.1, .int .i64 r.2.2], .slice a n cap] w fun e w' => e = .returned (.bool (inRb n r)) ∧ Below w.heap.size w w' := by
  obtain ⟨x, y, z⟩ := r
  dsimp only
  generalize hg : inRb n (x, y, z) = q
  have HG : Hid (inRb n (x, y, z) = q) := hg
  clear hg
  go_enter Tryz.func48, Tryz.ntmps48
  go_wp2_with (go_at_call 29; refine (within_any _ _ _ _).mono ?_; rintro e w1 ⟨rfl, rfl⟩)
  all_goals go_ret
  all_goals (refine ⟨congrArg (fun b => Ending.returned (Value.bool b)) ?_, bl_a _⟩; have hg := HG.out; rw [← hg, Bool.eq_iff_iff, inRb_iff]; go_light; unfold inR; simp; try omega)

/-- A row of numbers at its place. -/
theorem RRow.at {w : World} {b off : Nat} {l : List (Int × Int × Int)} (hc : ∀ j u, (flat3 l)[j]? = some u → w.cell? ⟨b, off + j, none⟩ = some u) (i : Nat) (x : Int × Int × Int) (hi : l[i]? = some x) :
    w.cell? ⟨b, off + i * 3, none⟩ = some (.int .i64 x.1) ∧ w.cell? ⟨b, off + i * 3 + 1, none⟩ = some (.int .i64 x.2.1) ∧ w.cell? ⟨b, off + i * 3 + 2, none⟩ = some (.int .i64 x.2.2) := by
  obtain ⟨hi', rfl⟩ := List.getElem?_eq_some_iff.1 hi
  refine ⟨hc (i * 3 + 0) _ ?_, ?_, ?_⟩
  · rw [flat3_get l i 0 hi' (by omega)]; rfl
  · rw [Nat.add_assoc]; exact hc _ _ (by rw [flat3_get l i 1 hi' (by omega)]; rfl)
  · rw [Nat.add_assoc]; exact hc _ _ (by rw [flat3_get l i 2 hi' (by omega)]; rfl)
theorem lists_ne_at {α : Type} {l m : List α} {k : Nat} {x y : α} (hx : l[k]? = some x) (hy : m[k]? = some y) (h : x ≠ y) : l ≠ m := by
  rintro rfl
  rw [hx] at hy
  exact h (Option.some.inj hy)
theorem lists_eq_of {α : Type} {l m : List α} (hl : l.length = m.length) (h : ∀ (i : Nat) x y, l[i]? = some x → m[i]? = some y → x = y) : l = m := by
  apply List.ext_getElem hl
  intro i h1 h2
  exact h i _ _ (List.getElem?_eq_getElem h1) (List.getElem?_eq_getElem h2)

set_option maxHeartbeats 4000000 in
theorem equalRows_any (a a' : Option Addr) (cap cap' : Nat) (l m : List (Int × Int × Int)) (w : World) (hn : l.length ≤ 1048576) (hn' : m.length ≤ 1048576) (hR : RRow w a l) (hR' : RRow w a' m) :
    Calls Tryz.prog 25 #[.slice a l.length cap, .slice a' m.length cap'] w fun e w' => e = .returned (.bool (decide (l = m))) ∧ Below w.heap.size w w' := by
  by_cases hlen : l.length = m.length
  rotate_left
  · have hne : decide (l = m) = false := by simp; intro h; exact hlen (by rw [h])
    rw [hne]
    have h1 : ((l.length : Int) == (m.length : Int)) = false := by simp; omega
    clear hR hR'
    generalize l.length = p at *
    generalize m.length = q at *
    go_enter Tryz.func25, Tryz.ntmps25
    go_wp2
    go_ret
    exact ⟨rfl, Below.refl _ _⟩
  · by_cases h0 : l = []
    · subst h0
      have hm : m = [] := List.eq_nil_of_length_eq_zero (by simpa using hlen.symm)
      subst hm
      go_enter Tryz.func25, Tryz.ntmps25
      go_wp2
      refine wp_loop_rounds 1 ?_
      rw [rounds_succ]
      go_wp2
      go_ret
      exact ⟨rfl, Below.refl _ _⟩
    · obtain ⟨b, off, rfl, hlt, hc⟩ : ∃ b off, a = some ⟨b, off, none⟩ ∧ b < w.heap.size ∧ ∀ j u, (flat3 l)[j]? = some u → w.cell? ⟨b, off + j, none⟩ = some u := by
        rcases hR with ⟨_, h⟩ | h
        · exact absurd h h0
        · exact h
      obtain ⟨b', off', rfl, hlt', hc'⟩ : ∃ b off, a' = some ⟨b, off, none⟩ ∧ b < w.heap.size ∧ ∀ j u, (flat3 m)[j]? = some u → w.cell? ⟨b, off + j, none⟩ = some u := by
        rcases hR' with ⟨_, h⟩ | h
        · subst h
          exact absurd (List.eq_nil_of_length_eq_zero (by simpa using hlen)) h0
        · exact h
      have HC : Hid (∀ j u, (flat3 l)[j]? = some u → w.cell? ⟨b, off + j, none⟩ = some u) := hc
      have HC' : Hid (∀ j u, (flat3 m)[j]? = some u → w.cell? ⟨b', off' + j, none⟩ = some u) := hc'
      obtain ⟨n, hnn⟩ : ∃ n, n = l.length := ⟨_, rfl⟩
      have HN : Hid (n = l.length) := hnn
      have HN' : Hid (n = m.length) := hnn.trans hlen
      rw [← hlen, ← hnn]
      rw [← hnn] at hn
      obtain ⟨q, hq⟩ : ∃ q, q = decide (l = m) := ⟨_, rfl⟩
      have HQ : Hid (q = decide (l = m)) := hq
      rw [← hq]
      clear hR hR' hc hc' hn' hlen hnn hq h0
      go_enter Tryz.func25, Tryz.ntmps25
      go_wp2
      go_loopw [13] (fun i wr => ∃ k : Nat, k ≤ n ∧ i = .int .i64 k ∧ Hid (∀ j x y, j < k → l[j]? = some x → m[j]? = some y → x = y) ∧ Hid (Below w.heap.size w wr))
        (fun i _ => n - (intOf i).toNat)
      case atStart => exact ⟨0, Nat.zero_le _, rfl, fun j x y hj => by omega, Below.refl _ _⟩
      case round =>
        obtain ⟨k, hk, rfl, HE, HB⟩ := hrel
        by_cases hlk : k < n
        · obtain ⟨x, hx⟩ : ∃ x, l[k]? = some x := ⟨l[k]'(by rw [← HN.out]; exact hlk), List.getElem?_eq_getElem _⟩
          obtain ⟨y, hy⟩ : ∃ y, m[k]? = some y := ⟨m[k]'(by rw [← HN'.out]; exact hlk), List.getElem?_eq_getElem _⟩
          have HX : Hid (l[k]? = some x) := hx
          have HY : Hid (m[k]? = some y) := hy
          have hcx := fun d os => RRow.at (l := l) (b := b) (off := off) (w := Go.Sort.grow (redrawn wr d) os) (fun j u hu => ((bl_trans HB.out (bl_regrown (w := wr) d os)).cell (p := ⟨b, off + j, none⟩) hlt).trans (HC.out j u hu)) k x hx
          have hcy := fun d os => RRow.at (l := m) (b := b') (off := off') (w := Go.Sort.grow (redrawn wr d) os) (fun j u hu => ((bl_trans HB.out (bl_regrown (w := wr) d os)).cell (p := ⟨b', off' + j, none⟩) hlt').trans (HC'.out j u hu)) k y hy
          have a1 := fun d os => (hcx d os).1
          have a2 := fun d os => (hcx d os).2.1
          have a3 := fun d os => (hcx d os).2.2
          have b1 := fun d os => (hcy d os).1
          have b2 := fun d os => (hcy d os).2.1
          have b3 := fun d os => (hcy d os).2.2
          clear hcx hcy hx hy
          obtain ⟨x1, x2, x3⟩ := x
          obtain ⟨y1, y2, y3⟩ := y
          dsimp only at a1 a2 a3 b1 b2 b3
          by_cases he : (x1, x2, x3) = (y1, y2, y3)
          · simp only [Prod.mk.injEq] at he
            obtain ⟨rfl, rfl, rfl⟩ := he
            go_wp2_with fail
            refine wp_region_quiet_below (by kernel_rfl) (by kernel_rfl) ?_
            quiet_step (fail)
            quiet_step (fail)
            quiet_step (fail)
            quiet_step (fail)
            quiet_step (fail)
            quiet_step (fail)
            quiet_step (fail)
            quiet_step (fail)
            quiet_step (fail)
            refine wpQuiet_nil ?_
            intro _ hw'
            obtain ⟨⟨dq, osq⟩, hw''⟩ := hw'
            subst hw''
            have HBq : Hid (Below w.heap.size w (Go.Sort.grow (redrawn wr dq) osq)) := bl_trans HB.out (bl_regrown (w := wr) dq osq)
            clear a1 a2 a3 b1 b2 b3 HB
            dsimp only
            generalize Go.Sort.grow (redrawn wr dq) osq = wq at *
            go_wp2_with fail
            go_roundw
            case rel =>
              refine ⟨k + 1, by omega, by go_num, fun j x y hj hx hy => ?_, HBq⟩
              by_cases e : j = k
              · subst e
                have h1 := HX.out
                have h2 := HY.out
                rw [h1] at hx
                rw [h2] at hy
                exact (Option.some.inj hx).symm.trans (Option.some.inj hy)
              · exact HE.out j x y (by omega) hx hy
            case measure => simp [intOf]; omega
          · have HQF : Hid (q = false) := by
              show q = false
              rw [HQ.out]
              simp only [decide_eq_false_iff_not]
              exact lists_ne_at HX.out HY.out he
            have hcs : ¬ x1 = y1 ∨ (x1 = y1 ∧ ¬ x2 = y2) ∨ (x1 = y1 ∧ x2 = y2 ∧ ¬ x3 = y3) := by
              simp only [Prod.mk.injEq] at he
              by_cases c1 : x1 = y1
              · by_cases c2 : x2 = y2
                · exact .inr (.inr ⟨c1, c2, fun c3 => he ⟨c1, c2, c3⟩⟩)
                · exact .inr (.inl ⟨c1, c2⟩)
              · exact .inl c1
            clear he
            rcases hcs with c1 | ⟨c1, c2⟩ | ⟨c1, c2, c3⟩
            · go_wp2_with fail
              refine wp_region_quiet_below (by kernel_rfl) (by kernel_rfl) ?_
              quiet_step (fail)
              quiet_step (fail)
              quiet_step (fail)
              quiet_step (fail)
              quiet_step (fail)
              quiet_step (fail)
              quiet_step (fail)
              quiet_step (fail)
              quiet_step (fail)
              refine wpQuiet_nil ?_
              intro _ hw'
              obtain ⟨⟨dq, osq⟩, hw''⟩ := hw'
              subst hw''
              have HBq : Hid (Below w.heap.size w (Go.Sort.grow (redrawn wr dq) osq)) := bl_trans HB.out (bl_regrown (w := wr) dq osq)
              clear a1 a2 a3 b1 b2 b3 HB
              dsimp only
              generalize Go.Sort.grow (redrawn wr dq) osq = wq at *
              go_wp2_with fail
              go_ret
              rw [HQF.out]
              exact ⟨rfl, HBq.out⟩
            · go_wp2_with fail
              refine wp_region_quiet_below (by kernel_rfl) (by kernel_rfl) ?_
              quiet_step (fail)
              quiet_step (fail)
              quiet_step (fail)
              quiet_step (fail)
              quiet_step (fail)
              quiet_step (fail)
              quiet_step (fail)
              quiet_step (fail)
              quiet_step (fail)
              refine wpQuiet_nil ?_
              intro _ hw'
              obtain ⟨⟨dq, osq⟩, hw''⟩ := hw'
              subst hw''
              have HBq : Hid (Below w.heap.size w (Go.Sort.grow (redrawn wr dq) osq)) := bl_trans HB.out (bl_regrown (w := wr) dq osq)
              clear a1 a2 a3 b1 b2 b3 HB
              dsimp only
              generalize Go.Sort.grow (redrawn wr dq) osq = wq at *
              go_wp2_with fail
              go_ret
              rw [HQF.out]
              exact ⟨rfl, HBq.out⟩
            · go_wp2_with fail
              refine wp_region_quiet_below (by kernel_rfl) (by kernel_rfl) ?_
              quiet_step (fail)
              quiet_step (fail)
              quiet_step (fail)
              quiet_step (fail)
              quiet_step (fail)
              quiet_step (fail)
              quiet_step (fail)
              quiet_step (fail)
              quiet_step (fail)
              refine wpQuiet_nil ?_
              intro _ hw'
              obtain ⟨⟨dq, osq⟩, hw''⟩ := hw'
              subst hw''
              have HBq : Hid (Below w.heap.size w (Go.Sort.grow (redrawn wr dq) osq)) := bl_trans HB.out (bl_regrown (w := wr) dq osq)
              clear a1 a2 a3 b1 b2 b3 HB
              dsimp only
              generalize Go.Sort.grow (redrawn wr dq) osq = wq at *
              go_wp2_with fail
              go_ret
              rw [HQF.out]
              exact ⟨rfl, HBq.out⟩
        · obtain rfl : k = n := by omega
          go_wp2_with fail
          go_ret
          have : q = true := by
            rw [HQ.out, decide_eq_true_eq]
            refine lists_eq_of (by rw [← HN.out, HN'.out]) fun i x y hx hy => HE.out i x y ?_ hx hy
            have := (List.getElem?_eq_some_iff.1 hx).1
            rw [HN.out]
            exact this
          rw [this]
          exact ⟨rfl, HB.out⟩
end Go.Proofs.YtobnpfcgcoooeaaGreatDoor

/- StqD -/
namespace Go.Proofs.YtobnpfcgcoooeaaGreatDoor
open Go.RowKit Go.Deep
set_option maxRecDepth 100000

theorem td_cT {x y : TD} (hx : x.good) (hy : Byt y.bs) : x.cT y = 0 ↔ x = y := by
  constructor
  · intro h
    exact TD.same hx.2.get hy.get hx.1 h
  · rintro rfl
    exact ord_cT.self x
set_option maxHeartbeats 1000000 in
theorem isSame_gb (x y : TB) (w : World) (hx : x.good) (fy : y.t.fits) (h : Bs w x.t.a x.t.len x.b) (h' : Bs w y.t.a y.t.len y.b) :
    Calls Tryz.prog 23 #[.agg #[.int .i64 x.t.k, .slice x.t.a x.t.len x.t.cap, .int .i64 x.t.n, .int .i64 x.t.s], .agg #[.int .i64 y.t.k, .slice y.t.a y.t.len y.t.cap, .int .i64 y.t.n, .int .i64 y.t.s]] w fun e w' => ∃ q, e = .returned (.bool q) ∧ (q = true ↔ x.td = y.td) ∧ Below w.heap.size w w' := by
  obtain ⟨a1, a2, a3, a4⟩ := fits_of_ok hx.1
  have C := fun o1 o2 => implCompare_any x.t.k x.t.n x.t.s y.t.k y.t.n y.t.s x.t.a y.t.a x.t.len x.t.cap y.t.len y.t.cap x.b y.b ((w.alloc o1).alloc o2) (h.below (bl_alloc (bl_a o1) o2)) (h'.below (bl_alloc (bl_a o1) o2)) a1 a2 a3 a4 fy.1 fy.2.1 fy.2.2.1 fy.2.2.2
  have HT : Hid (x.td.cT y.td = 0 ↔ x.td = y.td) := td_cT hx h'.byt
  have e : cmpT (termOk x.t.k x.b x.t.n x.t.s) (termOk y.t.k y.b y.t.n y.t.s) (cmp3 (cmpI x.t.k y.t.k) (cmpB x.b y.b) (cmpN x.t.n x.t.s.toNat y.t.n y.t.s.toNat)) = x.td.cT y.td := rfl
  rw [e] at C
  clear hx fy h h' e a1 a2 a3 a4
  obtain ⟨r, hr⟩ : ∃ r, r = x.td.cT y.td := ⟨_, rfl⟩
  have HR : Hid (r = x.td.cT y.td) := hr
  rw [← hr] at C
  clear hr
  go_enter Tryz.func23, Tryz.ntmps23
  go_wp2_with fail
  refine (C _ _).mono ?_
  rintro e w1 ⟨rfl, G⟩
  have HG : Hid (Below w.heap.size w w1) := bl_trans (bl_alloc (bl_a _) _) G
  clear C G
  by_cases hr : r = 0
  · subst hr
    go_wp2_with fail
    go_ret
    exact ⟨true, rfl, ⟨fun _ => HT.out.1 HR.out.symm, fun _ => rfl⟩, HG.out⟩
  · have hb : (r == 0) = false := beq_eq_false_iff_ne.2 hr
    go_wp2_with fail
    go_ret
    refine ⟨false, rfl, ⟨fun h => (by cases h), fun h => absurd ?_ hr⟩, HG.out⟩
    rw [HR.out]
    exact HT.out.2 h

set_option maxHeartbeats 4000000 in
theorem equalTerms_any (a a' : Option Addr) (cap cap' : Nat) (l m : List TB) (w : World) (hn : l.length ≤ 1048576) (hn' : m.length ≤ 1048576) (hR : TRow w a l) (hR' : TRow w a' m) (hT : TTxt w l) (hT' : TTxt w m) (hg : ∀ x ∈ l, x.good) (hf : ∀ x ∈ m, x.t.fits) :
    Calls Tryz.prog 22 #[.slice a l.length cap, .slice a' m.length cap', .func (.func 23) #[] #[]] w fun e w' => ∃ q, e = .returned (.bool q) ∧ (q = true ↔ l.map TB.td = m.map TB.td) ∧ Below w.heap.size w w' := by
  by_cases hlen : l.length = m.length
  rotate_left
  · have hne : ¬ l.map TB.td = m.map TB.td := by
      intro h
      exact hlen (by simpa using congrArg List.length h)
    have HNE : Hid (¬ l.map TB.td = m.map TB.td) := hne
    have h1 : ((l.length : Int) == (m.length : Int)) = false := by simp; omega
    clear hR hR' hT hT' hg hf hne
    generalize l.length = p at *
    generalize m.length = q at *
    go_enter Tryz.func22, Tryz.ntmps22
    go_wp2
    go_ret
    exact ⟨false, rfl, by simpa using HNE.out, Below.refl _ _⟩
  · by_cases h0 : l = []
    · subst h0
      have hm : m = [] := List.eq_nil_of_length_eq_zero (by simpa using hlen.symm)
      subst hm
      clear hR hR' hT hT' hg hf
      go_enter Tryz.func22, Tryz.ntmps22
      go_wp2
      refine wp_loop_rounds 1 ?_
      rw [rounds_succ]
      go_wp2
      go_ret
      exact ⟨true, rfl, by simp, Below.refl _ _⟩
    · obtain ⟨b, off, rfl, hlt, hc⟩ := hR.resolve_left h0
      have hm0 : m ≠ [] := by
        intro h
        subst h
        exact h0 (List.eq_nil_of_length_eq_zero (by simpa using hlen))
      obtain ⟨b', off', rfl, hlt', hc'⟩ := hR'.resolve_left hm0
      have HC : Hid (∀ j u, (flat4 l)[j]? = some u → w.cell? ⟨b, off + j, none⟩ = some u) := hc
      have HC' : Hid (∀ j u, (flat4 m)[j]? = some u → w.cell? ⟨b', off' + j, none⟩ = some u) := hc'
      have HSM : Hid (∀ x y W, x ∈ l → y ∈ m → Below w.heap.size w W → Calls Tryz.prog 23 #[.agg #[.int .i64 x.t.k, .slice x.t.a x.t.len x.t.cap, .int .i64 x.t.n, .int .i64 x.t.s], .agg #[.int .i64 y.t.k, .slice y.t.a y.t.len y.t.cap, .int .i64 y.t.n, .int .i64 y.t.s]] W fun e w' => ∃ q, e = .returned (.bool q) ∧ (q = true ↔ x.td = y.td) ∧ Below W.heap.size W w') := fun x y W hx hy hW => isSame_gb x y W (hg x hx) (hf y hy) ((hT x hx).below hW) ((hT' y hy).below hW)
      obtain ⟨n, hnn⟩ : ∃ n, n = l.length := ⟨_, rfl⟩
      have HN : Hid (n = l.length) := hnn
      have HN' : Hid (n = m.length) := hnn.trans hlen
      rw [← hlen, ← hnn]
      rw [← hnn] at hn
      clear hR hR' hc hc' hn' hlen hnn h0 hm0 hT hT' hg hf
      go_enter Tryz.func22, Tryz.ntmps22
      go_wp2
      go_loopw [17] (fun i wr => ∃ k : Nat, k ≤ n ∧ i = .int .i64 k ∧ Hid (∀ j x y, j < k → l[j]? = some x → m[j]? = some y → x.td = y.td) ∧ Hid (Below w.heap.size w wr))
        (fun i _ => n - (intOf i).toNat)
      case atStart => exact ⟨0, Nat.zero_le _, rfl, fun j x y hj => by omega, Below.refl _ _⟩
      case round =>
        obtain ⟨k, hk, rfl, HE, HB⟩ := hrel
        by_cases hlk : k < n
        · have hkl : k < l.length := by rw [← HN.out]; exact hlk
          have hkm : k < m.length := by rw [← HN'.out]; exact hlk
          obtain ⟨x, hx⟩ : ∃ x, x = l[k] := ⟨_, rfl⟩
          obtain ⟨y, hy⟩ : ∃ y, y = m[k] := ⟨_, rfl⟩
          have HX : Hid (l[k]? = some x) := (show l[k]? = some x by rw [hx]; exact List.getElem?_eq_getElem hkl)
          have HY : Hid (m[k]? = some y) := (show m[k]? = some y by rw [hy]; exact List.getElem?_eq_getElem hkm)
          have hcx := TRow.at (l := l) (b := b) (off := off) (w := wr) (fun j u hu => (HB.out.cell (p := ⟨b, off + j, none⟩) hlt).trans (HC.out j u hu)) k hkl
          have hcy := fun o => TRow.at (l := m) (b := b') (off := off') (w := wr.alloc o) (fun j u hu => ((bl_alloc HB.out o).cell (p := ⟨b', off' + j, none⟩) hlt').trans (HC'.out j u hu)) k hkm
          rw [← hx] at hcx
          rw [← hy] at hcy
          obtain ⟨a0, a1, a2, a3⟩ := hcx
          have b0 := fun o => (hcy o).1
          have b1 := fun o => (hcy o).2.1
          have b2 := fun o => (hcy o).2.2.1
          have b3 := fun o => (hcy o).2.2.2
          have SM := fun W hW => HSM.out x y W (List.mem_of_getElem? HX.out) (List.mem_of_getElem? HY.out) hW
          clear hcy hx hy
          go_wp2_with fail
          refine (SM _ (bl_alloc (bl_alloc HB.out _) _)).mono ?_
          rintro e w2 ⟨q2, rfl, hq2, hb2⟩
          have HQ2 : Hid (q2 = true ↔ x.td = y.td) := hq2
          have HB2 : Hid (Below w.heap.size w w2) := bl_trans (bl_alloc (bl_alloc HB.out _) _) hb2
          clear SM a0 a1 a2 a3 b0 b1 b2 b3 hb2 hq2 HB
          cases q2 with
          | false =>
            go_wp2_with fail
            go_ret
            have : ¬ l.map TB.td = m.map TB.td := by
              refine lists_ne_at (k := k) (x := x.td) (y := y.td) (by rw [List.getElem?_map, HX.out]; rfl) (by rw [List.getElem?_map, HY.out]; rfl) fun h => ?_
              have := HQ2.out.2 h
              simp at this
            exact ⟨false, rfl, ⟨fun h => (by cases h), fun h => absurd h this⟩, HB2.out⟩
          | true =>
            go_wp2_with fail
            go_roundw
            case rel =>
              refine ⟨k + 1, by omega, by go_num, fun j x' y' hj hx hy => ?_, HB2⟩
              by_cases e : j = k
              · subst e
                have h1 := HX.out
                have h2 := HY.out
                rw [h1] at hx
                rw [h2] at hy
                rw [← Option.some.inj hx, ← Option.some.inj hy]
                exact HQ2.out.1 (by simp)
              · exact HE.out j x' y' (by omega) hx hy
            case measure => simp [intOf]; omega
        · obtain rfl : k = n := by omega
          go_wp2_with fail
          go_ret
          have : l.map TB.td = m.map TB.td := by
            refine lists_eq_of (by rw [List.length_map, List.length_map, ← HN.out, HN'.out]) fun i x y hx hy => ?_
            rw [List.getElem?_map] at hx hy
            obtain ⟨x', hx', rfl⟩ := Option.map_eq_some_iff.1 hx
            obtain ⟨y', hy', rfl⟩ := Option.map_eq_some_iff.1 hy
            refine HE.out i x' y' ?_ hx' hy'
            have := (List.getElem?_eq_some_iff.1 hx').1
            rw [HN.out]
            exact this
          exact ⟨true, rfl, ⟨fun _ => this, fun _ => rfl⟩, HB.out⟩

/-- A list of rows of numbers, where it lies. -/
structure RB where
  a : Option Addr
  cap : Nat
  l : List (Int × Int × Int)
def RB.v (x : RB) : Value := .slice x.a x.l.length x.cap
/-- Lists of rows behind an address. -/
def SRow (w : World) (a : Option Addr) (l : List RB) : Prop := l = [] ∨ ∃ b off, a = some ⟨b, off, none⟩ ∧ b < w.heap.size ∧ ∀ i x, l[i]? = some x → w.cell? ⟨b, off + i, none⟩ = some (.slice x.a x.l.length x.cap)
theorem SRow.below {w w' : World} {a : Option Addr} {l : List RB} (h : SRow w a l) (hb : Below w.heap.size w w') : SRow w' a l := by
  rcases h with h | ⟨b, off, ha, hl, hc⟩
  · exact .inl h
  · exact .inr ⟨b, off, ha, Nat.lt_of_lt_of_le hl hb.size, fun i x hx => (hb.cell (p := ⟨b, off + i, none⟩) hl).trans (hc i x hx)⟩
/-- What they hold. -/
def SHold (w : World) (l : List RB) : Prop := ∀ x ∈ l, RRow w x.a x.l ∧ x.l.length ≤ 1048576
theorem SHold.below {w w' : World} {l : List RB} (h : SHold w l) (hb : Below w.heap.size w w') : SHold w' l := fun x hx => ⟨(h x hx).1.below hb, (h x hx).2⟩

set_option maxHeartbeats 4000000 in
theorem equalRowss_any (a a' : Option Addr) (cap cap' : Nat) (l m : List RB) (w : World) (hn : l.length ≤ 1048576) (hn' : m.length ≤ 1048576) (hR : SRow w a l) (hR' : SRow w a' m) (hH : SHold w l) (hH' : SHold w m) :
    Calls Tryz.prog 24 #[.slice a l.length cap, .slice a' m.length cap', .func (.func 25) #[] #[]] w fun e w' => e = .returned (.bool (decide (l.map RB.l = m.map RB.l))) ∧ Below w.heap.size w w' := by
  by_cases hlen : l.length = m.length
  rotate_left
  · have hne : decide (l.map RB.l = m.map RB.l) = false := by
      simp only [decide_eq_false_iff_not]
      intro h
      exact hlen (by simpa using congrArg List.length h)
    rw [hne]
    have h1 : ((l.length : Int) == (m.length : Int)) = false := by simp; omega
    clear hR hR' hH hH'
    generalize l.length = p at *
    generalize m.length = q at *
    go_enter Tryz.func24, Tryz.ntmps24
    go_wp2
    go_ret
    exact ⟨rfl, Below.refl _ _⟩
  · by_cases h0 : l = []
    · subst h0
      have hm : m = [] := List.eq_nil_of_length_eq_zero (by simpa using hlen.symm)
      subst hm
      clear hR hR' hH hH'
      go_enter Tryz.func24, Tryz.ntmps24
      go_wp2
      refine wp_loop_rounds 1 ?_
      rw [rounds_succ]
      go_wp2
      go_ret
      exact ⟨rfl, Below.refl _ _⟩
    · obtain ⟨b, off, rfl, hlt, hc⟩ := hR.resolve_left h0
      have hm0 : m ≠ [] := by
        intro h
        subst h
        exact h0 (List.eq_nil_of_length_eq_zero (by simpa using hlen))
      obtain ⟨b', off', rfl, hlt', hc'⟩ := hR'.resolve_left hm0
      have HC : Hid (∀ i x, l[i]? = some x → w.cell? ⟨b, off + i, none⟩ = some (.slice x.a x.l.length x.cap)) := hc
      have HC' : Hid (∀ i x, m[i]? = some x → w.cell? ⟨b', off' + i, none⟩ = some (.slice x.a x.l.length x.cap)) := hc'
      have HSM : Hid (∀ x y W, x ∈ l → y ∈ m → Below w.heap.size w W → Calls Tryz.prog 25 #[.slice x.a x.l.length x.cap, .slice y.a y.l.length y.cap] W fun e w' => e = .returned (.bool (decide (x.l = y.l))) ∧ Below W.heap.size W w') := fun x y W hx hy hW => equalRows_any x.a y.a x.cap y.cap x.l y.l W (hH x hx).2 (hH' y hy).2 ((hH x hx).1.below hW) ((hH' y hy).1.below hW)
      obtain ⟨n, hnn⟩ : ∃ n, n = l.length := ⟨_, rfl⟩
      have HN : Hid (n = l.length) := hnn
      have HN' : Hid (n = m.length) := hnn.trans hlen
      rw [← hlen, ← hnn]
      rw [← hnn] at hn
      obtain ⟨q, hq⟩ : ∃ q, q = decide (l.map RB.l = m.map RB.l) := ⟨_, rfl⟩
      have HQ : Hid (q = decide (l.map RB.l = m.map RB.l)) := hq
      rw [← hq]
      clear hR hR' hc hc' hn' hlen hnn hq h0 hm0 hH hH'
      go_enter Tryz.func24, Tryz.ntmps24
      go_wp2
      go_loopw [17] (fun i wr => ∃ k : Nat, k ≤ n ∧ i = .int .i64 k ∧ Hid (∀ j x y, j < k → l[j]? = some x → m[j]? = some y → x.l = y.l) ∧ Hid (Below w.heap.size w wr))
        (fun i _ => n - (intOf i).toNat)
      case atStart => exact ⟨0, Nat.zero_le _, rfl, fun j x y hj => by omega, Below.refl _ _⟩
      case round =>
        obtain ⟨k, hk, rfl, HE, HB⟩ := hrel
        by_cases hlk : k < n
        · have hkl : k < l.length := by rw [← HN.out]; exact hlk
          have hkm : k < m.length := by rw [← HN'.out]; exact hlk
          obtain ⟨x, hx⟩ : ∃ x, l[k]? = some x := ⟨_, List.getElem?_eq_getElem hkl⟩
          obtain ⟨y, hy⟩ : ∃ y, m[k]? = some y := ⟨_, List.getElem?_eq_getElem hkm⟩
          have HX : Hid (l[k]? = some x) := hx
          have HY : Hid (m[k]? = some y) := hy
          have a0 := (HB.out.cell (p := ⟨b, off + k, none⟩) hlt).trans (HC.out k x hx)
          have b0 := (HB.out.cell (p := ⟨b', off' + k, none⟩) hlt').trans (HC'.out k y hy)
          have SM := fun W hW => HSM.out x y W (List.mem_of_getElem? HX.out) (List.mem_of_getElem? HY.out) hW
          clear hx hy
          obtain ⟨q2, hq2⟩ : ∃ q2, q2 = decide (x.l = y.l) := ⟨_, rfl⟩
          have HQ2 : Hid (q2 = decide (x.l = y.l)) := hq2
          rw [← hq2] at SM
          clear hq2
          go_wp2_with fail
          refine (SM _ HB.out).mono ?_
          rintro e w2 ⟨rfl, hb2⟩
          have HB2 : Hid (Below w.heap.size w w2) := bl_trans HB.out hb2
          clear SM a0 b0 hb2 HB
          cases q2 with
          | false =>
            go_wp2_with fail
            go_ret
            have : q = false := by
              rw [HQ.out]
              simp only [decide_eq_false_iff_not]
              refine lists_ne_at (k := k) (x := x.l) (y := y.l) (by rw [List.getElem?_map, HX.out]; rfl) (by rw [List.getElem?_map, HY.out]; rfl) fun h => ?_
              have := HQ2.out
              simp [h] at this
            rw [this]
            exact ⟨rfl, HB2.out⟩
          | true =>
            go_wp2_with fail
            go_roundw
            case rel =>
              refine ⟨k + 1, by omega, by go_num, fun j x' y' hj hx hy => ?_, HB2⟩
              by_cases e : j = k
              · subst e
                have h1 := HX.out
                have h2 := HY.out
                rw [h1] at hx
                rw [h2] at hy
                rw [← Option.some.inj hx, ← Option.some.inj hy]
                exact of_decide_eq_true HQ2.out.symm
              · exact HE.out j x' y' (by omega) hx hy
            case measure => simp [intOf]; omega
        · obtain rfl : k = n := by omega
          go_wp2_with fail
          go_ret
          have : q = true := by
            rw [HQ.out, decide_eq_true_eq]
            refine lists_eq_of (by rw [List.length_map, List.length_map, ← HN.out, HN'.out]) fun i x y hx hy => ?_
            rw [List.getElem?_map] at hx hy
            obtain ⟨x', hx', rfl⟩ := Option.map_eq_some_iff.1 hx
            obtain ⟨y', hy', rfl⟩ := Option.map_eq_some_iff.1 hy
            refine HE.out i x' y' ?_ hx' hy'
            have := (List.getElem?_eq_some_iff.1 hx').1
            rw [HN.out]
            exact this
          rw [this]
          exact ⟨rfl, HB.out⟩
end Go.Proofs.YtobnpfcgcoooeaaGreatDoor
