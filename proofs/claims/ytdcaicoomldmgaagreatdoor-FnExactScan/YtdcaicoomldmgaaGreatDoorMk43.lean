/- Texts put together: StvA -/
import Derived.Test.YtdcaicoomldmgaaGreatDoorMk38
import Derived.Test.YtdcaicoomldmgaaGreatDoorMk07
/- StvA -/
namespace Go.Proofs.YtdcaicoomldmgaaGreatDoor
open Go.RowKit Go.Deep
set_option maxRecDepth 100000

/-- What measuring terms answers. -/
def SzT (tb : List TB) (e : Ending) : Prop := ∃ r : Int, e = .returned (.int .i64 r) ∧ r ≤ 1048576 ∧ (¬ r < 0 → tb.length ≤ 1048576 ∧ ∀ x ∈ tb, x.t.len ≤ 1048576) ∧ (r < 0 → r = -1)
theorem leftOf_le {l : Int} {n : Nat} (h : ¬ leftOf l n < 0) (_h0 : 0 ≤ l) : (n : Int) ≤ l ∧ leftOf l n ≤ l ∧ 0 ≤ leftOf l n := by
  unfold leftOf at *
  split at h <;> split <;> omega
theorem leftOf_neg1 {l : Int} {n : Nat} (h : leftOf l n < 0) (_h0 : 0 ≤ l) : leftOf l n = -1 := by
  unfold leftOf at *
  split at h <;> split <;> omega
set_option maxHeartbeats 2000000 in
theorem szTermS_any (a : Option Addr) (cap : Nat) (tb : List TB) (l : Int) (w : World) (h1 : 0 ≤ l) (h2 : l ≤ 1048576) (hn : tb.length ≤ 9223372036854775807) (hR : TRow w a tb) (hl : ∀ x ∈ tb, x.t.len ≤ 9223372036854775807) :
    Calls Tryz.prog 50 #[.slice a tb.length cap, .int .i64 l] w fun e w' => SzT tb e ∧ Below w.heap.size w w' := by
  obtain ⟨n, hnn⟩ : ∃ n, n = tb.length := ⟨_, rfl⟩
  have HN : Hid (n = tb.length) := hnn
  rw [← hnn] at hn ⊢
  by_cases hbig : l < n
  · clear hR hl
    go_enter Tryz.func50, Tryz.ntmps50
    go_wp2
    go_ret
    exact ⟨⟨-1, rfl, by omega, fun h => absurd (by omega) h, fun _ => rfl⟩, Below.refl _ _⟩
  by_cases hn0 : n = 0
  · have ht : tb = [] := List.eq_nil_of_length_eq_zero (by omega)
    subst hn0 ht
    clear hR hl hnn HN hn hbig
    have hbig : ¬ l < 0 := by omega
    go_enter Tryz.func50, Tryz.ntmps50
    go_wp2
    refine wp_loop_rounds 1 ?_
    rw [rounds_succ]
    go_wp2
    go_ret
    exact ⟨⟨_, rfl, by omega, fun _ => ⟨by simp, fun x hx => (by cases hx)⟩, fun h => by omega⟩, Below.refl _ _⟩
  have ht0 : tb ≠ [] := by
    intro e
    rw [e] at hnn
    exact hn0 (by simpa using hnn)
  obtain ⟨b, off, rfl, hlt, hc⟩ := hR.resolve_left ht0
  have HC : Hid (∀ j u, (flat4 tb)[j]? = some u → w.cell? ⟨b, off + j, none⟩ = some u) := hc
  have HL : Hid (∀ x ∈ tb, x.t.len ≤ 9223372036854775807) := hl
  clear hR hl hc hnn ht0
  go_enter Tryz.func50, Tryz.ntmps50
  go_wp2
  go_loopw [1, 5] (fun x i wr => ∃ (k : Nat) (r : Int), k ≤ n ∧ i = .int .i64 k ∧ x = .int .i64 r ∧ 0 ≤ r ∧ r ≤ 1048576 ∧ Hid (Below w.heap.size w wr) ∧ Hid (∀ j x, j < k → tb[j]? = some x → x.t.len ≤ 1048576))
    (fun _ i _ => n - (intOf i).toNat)
  case atStart => exact ⟨0, _, Nat.zero_le _, rfl, rfl, by omega, by omega, Below.refl _ _, fun j x hj => by omega⟩
  case round =>
    obtain ⟨k, r, hk, rfl, rfl, hr0, hr1, HB, HH⟩ := hrel
    by_cases hlk : k < n
    · have hkl : k < tb.length := by rw [← HN.out]; exact hlk
      obtain ⟨x, hx⟩ : ∃ x, x = tb[k] := ⟨_, rfl⟩
      have HX : Hid (tb[k]? = some x) := (show tb[k]? = some x by rw [hx]; exact List.getElem?_eq_getElem hkl)
      have hcx := TRow.at (l := tb) (b := b) (off := off) (w := wr) (fun j u hu => (HB.out.cell (p := ⟨b, off + j, none⟩) hlt).trans (HC.out j u hu)) k hkl
      rw [← hx] at hcx
      obtain ⟨x0, x1, x2, x3⟩ := hcx
      have Z := fun w => szTerm_any x.t.k x.t.n x.t.s x.t.a x.t.len x.t.cap r w hr0 hr1 (HL.out x (List.mem_of_getElem? HX.out))
      have Z1 : Hid (¬ leftOf r x.t.len < 0 → x.t.len ≤ 1048576 ∧ 0 ≤ leftOf r x.t.len ∧ leftOf r x.t.len ≤ 1048576) := by
        intro h
        have := leftOf_le h hr0
        omega
      generalize leftOf r x.t.len = q at *
      clear hx
      go_wp2_with fail
      refine (Z _).mono ?_
      rintro e w2 ⟨rfl, hb2⟩
      have HB2 : Hid (Below w.heap.size w w2) := bl_trans HB.out hb2
      clear x0 x1 x2 x3 Z hb2 HB
      by_cases hq : q < 0
      · go_wp2
        go_ret
        exact ⟨⟨-1, rfl, by omega, fun h => absurd (by omega) h, fun _ => rfl⟩, HB2.out⟩
      · obtain ⟨z1, z2, z3⟩ := Z1.out (by omega)
        have HZ1 : Hid (x.t.len ≤ 1048576) := z1
        clear z1
        go_wp2
        go_roundw
        case rel =>
          refine ⟨k + 1, q, by omega, by go_num, rfl, by omega, by omega, HB2, fun j y hj hy => ?_⟩
          by_cases e : j = k
          · subst e
            rw [HX.out] at hy
            cases hy
            exact HZ1.out
          · exact HH.out j y (by omega) hy
        case measure => simp [intOf]; omega
    · obtain rfl : k = n := by omega
      go_wp2
      go_ret
      refine ⟨⟨r, rfl, hr1, fun _ => ⟨by rw [← HN.out]; omega, fun x hx => ?_⟩, fun h => by omega⟩, HB.out⟩
      obtain ⟨j, hj, rfl⟩ := List.mem_iff_getElem.1 hx
      exact HH.out j _ (by rw [HN.out]; exact hj) (List.getElem?_eq_getElem hj)

theorem szRowS_any (a : Option Addr) (n cap : Nat) (l : Int) (w : World) (_h1 : 0 ≤ l) (_h2 : l ≤ 1048576) (_h3 : n ≤ 9223372036854775807) :
    Calls Tryz.prog 91 #[.slice a n cap, .int .i64 l] w fun e w' => e = .returned (.int .i64 (leftOf l n)) ∧ w' = w := by
  unfold leftOf
  go_enter Tryz.func91, Tryz.ntmps91
  go_wp2
  all_goals go_ret
  all_goals exact ⟨rfl, rfl⟩

/-- What measuring lists of rows answers. -/
def SzR (rbs : List RB) (e : Ending) : Prop := ∃ r : Int, e = .returned (.int .i64 r) ∧ r ≤ 1048576 ∧ (¬ r < 0 → rbs.length ≤ 1048576 ∧ ∀ x ∈ rbs, x.l.length ≤ 1048576) ∧ (r < 0 → r = -1)
set_option maxHeartbeats 2000000 in
theorem szRowSS_any (a : Option Addr) (cap : Nat) (rbs : List RB) (l : Int) (w : World) (h1 : 0 ≤ l) (h2 : l ≤ 1048576) (hn : rbs.length ≤ 9223372036854775807) (hR : SRow w a rbs) (hl : ∀ x ∈ rbs, x.l.length ≤ 9223372036854775807) :
    Calls Tryz.prog 51 #[.slice a rbs.length cap, .int .i64 l] w fun e w' => SzR rbs e ∧ Below w.heap.size w w' := by
  obtain ⟨n, hnn⟩ : ∃ n, n = rbs.length := ⟨_, rfl⟩
  have HN : Hid (n = rbs.length) := hnn
  rw [← hnn] at hn ⊢
  by_cases hbig : l < n
  · clear hR hl
    go_enter Tryz.func51, Tryz.ntmps51
    go_wp2
    go_ret
    exact ⟨⟨-1, rfl, by omega, fun h => absurd (by omega) h, fun _ => rfl⟩, Below.refl _ _⟩
  by_cases hn0 : n = 0
  · have ht : rbs = [] := List.eq_nil_of_length_eq_zero (by omega)
    subst hn0 ht
    clear hR hl hnn HN hn hbig
    have hbig : ¬ l < 0 := by omega
    go_enter Tryz.func51, Tryz.ntmps51
    go_wp2
    refine wp_loop_rounds 1 ?_
    rw [rounds_succ]
    go_wp2
    go_ret
    exact ⟨⟨_, rfl, by omega, fun _ => ⟨by simp, fun x hx => (by cases hx)⟩, fun h => by omega⟩, Below.refl _ _⟩
  have ht0 : rbs ≠ [] := by
    intro e
    rw [e] at hnn
    exact hn0 (by simpa using hnn)
  obtain ⟨b, off, rfl, hlt, hc⟩ := hR.resolve_left ht0
  have HC : Hid (∀ i x, rbs[i]? = some x → w.cell? ⟨b, off + i, none⟩ = some (.slice x.a x.l.length x.cap)) := hc
  have HL : Hid (∀ x ∈ rbs, x.l.length ≤ 9223372036854775807) := hl
  clear hR hl hc hnn ht0
  go_enter Tryz.func51, Tryz.ntmps51
  go_wp2
  go_loopw [1, 5] (fun x i wr => ∃ (k : Nat) (r : Int), k ≤ n ∧ i = .int .i64 k ∧ x = .int .i64 r ∧ 0 ≤ r ∧ r ≤ 1048576 ∧ Hid (Below w.heap.size w wr) ∧ Hid (∀ j x, j < k → rbs[j]? = some x → x.l.length ≤ 1048576))
    (fun _ i _ => n - (intOf i).toNat)
  case atStart => exact ⟨0, _, Nat.zero_le _, rfl, rfl, by omega, by omega, Below.refl _ _, fun j x hj => by omega⟩
  case round =>
    obtain ⟨k, r, hk, rfl, rfl, hr0, hr1, HB, HH⟩ := hrel
    by_cases hlk : k < n
    · obtain ⟨x, hx⟩ : ∃ x, rbs[k]? = some x := ⟨_, List.getElem?_eq_getElem (by rw [← HN.out]; exact hlk)⟩
      have HX : Hid (rbs[k]? = some x) := hx
      have hcx := (HB.out.cell (p := ⟨b, off + k, none⟩) hlt).trans (HC.out k x hx)
      obtain ⟨m, hm⟩ : ∃ m, m = x.l.length := ⟨_, rfl⟩
      have HM : Hid (m = x.l.length) := hm
      rw [← hm] at hcx
      have Z := fun w => szRowS_any x.a m x.cap r w hr0 hr1 (by rw [hm]; exact HL.out x (List.mem_of_getElem? hx))
      have Z1 : Hid (¬ leftOf r m < 0 → m ≤ 1048576 ∧ 0 ≤ leftOf r m ∧ leftOf r m ≤ 1048576) := by
        intro h
        have := leftOf_le h hr0
        omega
      generalize leftOf r m = q at *
      clear hx hm
      go_wp2_with fail
      refine (Z _).mono ?_
      rintro e w2 ⟨rfl, rfl⟩
      clear hcx Z
      by_cases hq : q < 0
      · go_wp2
        go_ret
        exact ⟨⟨-1, rfl, by omega, fun h => absurd (by omega) h, fun _ => rfl⟩, HB.out⟩
      · obtain ⟨z1, z2, z3⟩ := Z1.out (by omega)
        have HZ1 : Hid (m ≤ 1048576) := z1
        clear z1
        go_wp2
        go_roundw
        case rel =>
          refine ⟨k + 1, q, by omega, by go_num, rfl, by omega, by omega, HB, fun j y hj hy => ?_⟩
          by_cases e : j = k
          · subst e
            rw [HX.out] at hy
            cases hy
            rw [← HM.out]
            exact HZ1.out
          · exact HH.out j y (by omega) hy
        case measure => simp [intOf]; omega
    · obtain rfl : k = n := by omega
      go_wp2
      go_ret
      refine ⟨⟨r, rfl, hr1, fun _ => ⟨by rw [← HN.out]; omega, fun x hx => ?_⟩, fun h => by omega⟩, HB.out⟩
      obtain ⟨j, hj, rfl⟩ := List.mem_iff_getElem.1 hx
      exact HH.out j _ (by rw [HN.out]; exact hj) (List.getElem?_eq_getElem hj)

/-- What measuring a store answers. -/
def SzS (tb : List TB) (rbs : List RB) (e : Ending) : Prop := ∃ r : Int, e = .returned (.int .i64 r) ∧ r ≤ 1048576 ∧ (¬ r < 0 → (tb.length ≤ 1048576 ∧ ∀ x ∈ tb, x.t.len ≤ 1048576) ∧ rbs.length ≤ 1048576 ∧ ∀ x ∈ rbs, x.l.length ≤ 1048576) ∧ (r < 0 → r = -1)
set_option maxHeartbeats 2000000 in
theorem szStore_any (aT aR : Option Addr) (capT capR : Nat) (tb : List TB) (rbs : List RB) (l : Int) (w : World) (h1 : 0 ≤ l) (h2 : l ≤ 1048576) (hnT : tb.length ≤ 9223372036854775807) (hnR : rbs.length ≤ 9223372036854775807) (hT : TRow w aT tb) (hR : SRow w aR rbs) (hlT : ∀ x ∈ tb, x.t.len ≤ 9223372036854775807) (hlR : ∀ x ∈ rbs, x.l.length ≤ 9223372036854775807) :
    Calls Tryz.prog 16 #[.agg #[.slice aT tb.length capT, .slice aR rbs.length capR], .int .i64 l] w fun e w' => SzS tb rbs e ∧ Below w.heap.size w w' := by
  have Z1 := fun o => szTermS_any aT capT tb l (w.alloc o) h1 h2 hnT (hT.below (bl_a o)) hlT
  have HZ2 : Hid (∀ q W, 0 ≤ q → q ≤ 1048576 → Below w.heap.size w W → Calls Tryz.prog 51 #[.slice aR rbs.length capR, .int .i64 q] W fun e w' => SzR rbs e ∧ Below W.heap.size W w') := fun q W g1 g2 hW => szRowSS_any aR capR rbs q W g1 g2 hnR (hR.below hW) hlR
  generalize hNT : tb.length = nT at *
  generalize hNR : rbs.length = nR at *
  have HNT : Hid (tb.length = nT) := hNT
  have HNR : Hid (rbs.length = nR) := hNR
  clear hT hR hlT hlR hNT hNR
  go_enter Tryz.func16, Tryz.ntmps16
  go_wp2_with fail
  refine (Z1 _).mono ?_
  rintro e w1 ⟨⟨r, rfl, hr1, hr2, hr3⟩, hb1⟩
  have HB1 : Hid (Below w.heap.size w w1) := bl_trans (bl_a _) hb1
  have HR2 : Hid (¬ r < 0 → tb.length ≤ 1048576 ∧ ∀ x ∈ tb, x.t.len ≤ 1048576) := hr2
  have c1 : w1.cell? ⟨w.heap.size, 1, none⟩ = some (.slice aR nR capR) := (hb1.cell (p := ⟨w.heap.size, 1, none⟩) (by simp)).trans (by simp [go_sem])
  clear Z1 hb1 hr2
  by_cases hr0 : r < 0
  · have hm := hr3 hr0
    clear hr3
    go_wp2
    go_ret
    exact ⟨⟨-1, rfl, by omega, fun h => absurd (by omega) h, fun _ => rfl⟩, HB1.out⟩
  · have Z2 := HZ2.out r w1 (by omega) hr1 HB1.out
    clear hr3
    go_wp2_with fail
    refine Z2.mono ?_
    rintro e w2 ⟨⟨q, rfl, hq1, hq2, hq3⟩, hb2⟩
    have HB2 : Hid (Below w.heap.size w w2) := bl_trans HB1.out hb2
    have HQ2 : Hid (¬ q < 0 → rbs.length ≤ 1048576 ∧ ∀ x ∈ rbs, x.l.length ≤ 1048576) := hq2
    clear Z2 hb2 hq2 c1
    by_cases hq0 : q < 0
    · have hm := hq3 hq0
      clear hq3
      go_wp2
      go_ret
      exact ⟨⟨-1, rfl, by omega, fun h => absurd (by omega) h, fun _ => rfl⟩, HB2.out⟩
    · clear hq3
      go_wp2
      go_ret
      exact ⟨⟨q, rfl, hq1, fun _ => ⟨HR2.out (by omega), HQ2.out (by omega)⟩, fun h => by omega⟩, HB2.out⟩

set_option maxHeartbeats 2000000 in
theorem eqTermS_like (a a' : Option Addr) (cap cap' : Nat) (l m : List TB) (w : World) (hn : l.length ≤ 1048576) (hR : TRow w a l) (hR' : TRow w a' m) (hT : TTxt w l) (hT' : TTxt w m) (he : l.map TB.td = m.map TB.td) :
    Calls Tryz.prog 42 #[.slice a l.length cap, .slice a' m.length cap'] w fun e w' => e = .returned (.bool true) ∧ Below w.heap.size w w' := by
  have hlen : m.length = l.length := by simpa using (congrArg List.length he).symm
  rw [hlen]
  by_cases h0 : l = []
  · subst h0
    clear hR hR' hT hT' he hlen
    go_enter Tryz.func42, Tryz.ntmps42
    go_wp2
    refine wp_loop_rounds 1 ?_
    rw [rounds_succ]
    go_wp2
    go_ret
    exact ⟨rfl, Below.refl _ _⟩
  · obtain ⟨b, off, rfl, hlt, hc⟩ := hR.resolve_left h0
    have hm0 : m ≠ [] := by
      intro e
      subst e
      exact h0 (List.eq_nil_of_length_eq_zero (by simpa using hlen.symm))
    obtain ⟨b', off', rfl, hlt', hc'⟩ := hR'.resolve_left hm0
    have HC : Hid (∀ j u, (flat4 l)[j]? = some u → w.cell? ⟨b, off + j, none⟩ = some u) := hc
    have HC' : Hid (∀ j u, (flat4 m)[j]? = some u → w.cell? ⟨b', off' + j, none⟩ = some u) := hc'
    have HT : Hid (TTxt w l) := hT
    have HT' : Hid (TTxt w m) := hT'
    have HE : Hid (∀ (i : Nat) (x y : TB), l[i]? = some x → m[i]? = some y → x.td = y.td) := by
      intro i x y hx hy
      have h1 : (l.map TB.td)[i]? = some x.td := by rw [List.getElem?_map, hx]; rfl
      rw [he, List.getElem?_map, hy] at h1
      exact (Option.some.inj h1).symm
    obtain ⟨n, hnn⟩ : ∃ n, n = l.length := ⟨_, rfl⟩
    have HN : Hid (n = l.length) := hnn
    have HN' : Hid (n = m.length) := hnn.trans hlen.symm
    rw [← hnn] at hn ⊢
    clear hR hR' hc hc' hT hT' he hlen hnn h0 hm0
    go_enter Tryz.func42, Tryz.ntmps42
    go_wp2
    go_loopw [5] (fun i wr => ∃ k : Nat, k ≤ n ∧ i = .int .i64 k ∧ Hid (Below w.heap.size w wr))
      (fun i _ => n - (intOf i).toNat)
    case atStart => exact ⟨0, Nat.zero_le _, rfl, Below.refl _ _⟩
    case round =>
      obtain ⟨k, hk, rfl, HB⟩ := hrel
      by_cases hlk : k < n
      · have hlkz : (k : Int) < (n : Int) := by omega
        have hbl := fun d os => bl_trans HB.out (bl_regrown (w := wr) d os)
        have hkl : k < l.length := by rw [← HN.out]; exact hlk
        have hkm : k < m.length := by rw [← HN'.out]; exact hlk
        obtain ⟨x, hx⟩ : ∃ x, x = l[k] := ⟨_, rfl⟩
        obtain ⟨y, hy⟩ : ∃ y, y = m[k] := ⟨_, rfl⟩
        have HX : l[k]? = some x := by rw [hx]; exact List.getElem?_eq_getElem hkl
        have HY : m[k]? = some y := by rw [hy]; exact List.getElem?_eq_getElem hkm
        have hcx := fun d os => TRow.at (l := l) (b := b) (off := off) (w := (Go.Sort.grow (redrawn wr d) os)) (fun j u hu => ((hbl d os).cell (p := ⟨b, off + j, none⟩) hlt).trans (HC.out j u hu)) k hkl
        have hcy := fun d os => TRow.at (l := m) (b := b') (off := off') (w := (Go.Sort.grow (redrawn wr d) os)) (fun j u hu => ((hbl d os).cell (p := ⟨b', off' + j, none⟩) hlt').trans (HC'.out j u hu)) k hkm
        rw [← hx] at hcx
        rw [← hy] at hcy
        have hxy := HE.out k x y HX HY
        have hk1 := congrArg TD.k hxy
        have hk2 := congrArg TD.bs hxy
        have hk3 := congrArg TD.n hxy
        have hk4 := congrArg TD.s hxy
        have a1 := fun d os => (hcx d os).1
        have a2 := fun d os => (hcx d os).2.1
        have a3 := fun d os => (hcx d os).2.2.1
        have a4 := fun d os => (hcx d os).2.2.2
        have e1 := fun d os => (hcy d os).1
        have e2 := fun d os => (hcy d os).2.1
        have e3 := fun d os => (hcy d os).2.2.1
        have e4 := fun d os => (hcy d os).2.2.2
        have C := fun d os => Calls.regrown_of (eqTerm_like x.t y.t x.b (Go.Sort.grow (redrawn wr d) os) ⟨hk1, hk3, hk4⟩ ((HT.out x (List.mem_of_getElem? HX)).below (hbl d os)) (by have h9 := (HT'.out y (List.mem_of_getElem? HY)).below (hbl d os); rw [show x.b = y.b from hk2]; exact h9))
        clear hcx hcy hx hy hbl HX HY hxy hk1 hk2 hk3 hk4
        go_wp2_with fail
        refine wp_region_quiet_below (by kernel_rfl) (by kernel_rfl) ?_
        quiet_step (fail)
        quiet_step (fail)
        quiet_step (fail)
        quiet_step (fail)
        quiet_step (fail)
        quiet_step (fail)
        quiet_step (fail)
        quiet_step (fail)
        quiet_step (exact C _ _)
        quiet_step (fail)
        refine wpQuiet_nil ?_
        intro _ hw'
        obtain ⟨⟨dq, osq⟩, hw''⟩ := hw'
        subst hw''
        have HBq : Hid (Below w.heap.size w (Go.Sort.grow (redrawn wr dq) osq)) := bl_trans HB.out (bl_regrown (w := wr) dq osq)
        clear a1 a2 a3 a4 e1 e2 e3 e4 C HB
        dsimp only
        generalize Go.Sort.grow (redrawn wr dq) osq = wq at *
        go_wp2_with fail
        go_roundw
        case rel => exact ⟨k + 1, by omega, by go_num, HBq⟩
        case measure => simp [intOf]; omega
      · obtain rfl : k = n := by omega
        have hlkz : ¬ (k : Int) < (k : Int) := by omega
        go_wp2_with fail
        go_ret
        exact ⟨rfl, HB.out⟩

theorem eqRow_same (x : Int × Int × Int) (w : World) :
    Calls Tryz.prog 64 #[.agg #[.int .i64 x.1, .int .i64 x.2.1, .int .i64 x.2.2], .agg #[.int .i64 x.1, .int .i64 x.2.1, .int .i64 x.2.2]] w fun e w' => e = .returned (.bool true) ∧ Below w.heap.size w w' := by
  obtain ⟨a, b, c⟩ := x
  dsimp only
  go_enter Tryz.func64, Tryz.ntmps64
  go_wp2
  go_ret
  exact ⟨rfl, bl_alloc (bl_a _) _⟩
set_option maxHeartbeats 2000000 in
theorem eqRowS_same (a a' : Option Addr) (cap cap' : Nat) (l : List (Int × Int × Int)) (w : World) (hn : l.length ≤ 1048576) (hR : RRow w a l) (hR' : RRow w a' l) :
    Calls Tryz.prog 26 #[.slice a l.length cap, .slice a' l.length cap'] w fun e w' => e = .returned (.bool true) ∧ Below w.heap.size w w' := by
  by_cases h0 : l = []
  · subst h0
    clear hR hR'
    go_enter Tryz.func26, Tryz.ntmps26
    go_wp2
    refine wp_loop_rounds 1 ?_
    rw [rounds_succ]
    go_wp2
    go_ret
    exact ⟨rfl, Below.refl _ _⟩
  · obtain ⟨b, off, rfl, hlt, hc⟩ : ∃ b off, a = some ⟨b, off, none⟩ ∧ b < w.heap.size ∧ ∀ j u, (flat3 l)[j]? = some u → w.cell? ⟨b, off + j, none⟩ = some u := by
      rcases hR with ⟨_, h⟩ | h
      · exact absurd h h0
      · exact h
    obtain ⟨b', off', rfl, hlt', hc'⟩ : ∃ b off, a' = some ⟨b, off, none⟩ ∧ b < w.heap.size ∧ ∀ j u, (flat3 l)[j]? = some u → w.cell? ⟨b, off + j, none⟩ = some u := by
      rcases hR' with ⟨_, h⟩ | h
      · exact absurd h h0
      · exact h
    have HC : Hid (∀ j u, (flat3 l)[j]? = some u → w.cell? ⟨b, off + j, none⟩ = some u) := hc
    have HC' : Hid (∀ j u, (flat3 l)[j]? = some u → w.cell? ⟨b', off' + j, none⟩ = some u) := hc'
    obtain ⟨n, hnn⟩ : ∃ n, n = l.length := ⟨_, rfl⟩
    have HN : Hid (n = l.length) := hnn
    rw [← hnn] at hn ⊢
    clear hc hc' hnn h0
    go_enter Tryz.func26, Tryz.ntmps26
    go_wp2
    go_loopw [5] (fun i wr => ∃ k : Nat, k ≤ n ∧ i = .int .i64 k ∧ Hid (Below w.heap.size w wr))
      (fun i _ => n - (intOf i).toNat)
    case atStart => exact ⟨0, Nat.zero_le _, rfl, Below.refl _ _⟩
    case round =>
      obtain ⟨k, hk, rfl, HB⟩ := hrel
      by_cases hlk : k < n
      · have hlkz : (k : Int) < (n : Int) := by omega
        have hbl := fun d os => bl_trans HB.out (bl_regrown (w := wr) d os)
        obtain ⟨x, hx⟩ : ∃ x, l[k]? = some x := ⟨_, List.getElem?_eq_getElem (by rw [← HN.out]; exact hlk)⟩
        have hcx := fun d os => RRow.at (l := l) (b := b) (off := off) (w := (Go.Sort.grow (redrawn wr d) os)) (fun j u hu => ((hbl d os).cell (p := ⟨b, off + j, none⟩) hlt).trans (HC.out j u hu)) k x hx
        have hcy := fun d os => RRow.at (l := l) (b := b') (off := off') (w := (Go.Sort.grow (redrawn wr d) os)) (fun j u hu => ((hbl d os).cell (p := ⟨b', off' + j, none⟩) hlt').trans (HC'.out j u hu)) k x hx
        have a1 := fun d os => (hcx d os).1
        have a2 := fun d os => (hcx d os).2.1
        have a3 := fun d os => (hcx d os).2.2
        have e1 := fun d os => (hcy d os).1
        have e2 := fun d os => (hcy d os).2.1
        have e3 := fun d os => (hcy d os).2.2
        have C := fun d os => Calls.regrown_of (eqRow_same x (Go.Sort.grow (redrawn wr d) os))
        clear hcx hcy hx hbl
        go_wp2_with fail
        refine wp_region_quiet_below (by kernel_rfl) (by kernel_rfl) ?_
        quiet_step (fail)
        quiet_step (fail)
        quiet_step (fail)
        quiet_step (fail)
        quiet_step (fail)
        quiet_step (fail)
        quiet_step (fail)
        quiet_step (fail)
        quiet_step (exact C _ _)
        quiet_step (fail)
        refine wpQuiet_nil ?_
        intro _ hw'
        obtain ⟨⟨dq, osq⟩, hw''⟩ := hw'
        subst hw''
        have HBq : Hid (Below w.heap.size w (Go.Sort.grow (redrawn wr dq) osq)) := bl_trans HB.out (bl_regrown (w := wr) dq osq)
        clear a1 a2 a3 e1 e2 e3 C HB
        dsimp only
        generalize Go.Sort.grow (redrawn wr dq) osq = wq at *
        go_wp2_with fail
        go_roundw
        case rel => exact ⟨k + 1, by omega, by go_num, HBq⟩
        case measure => simp [intOf]; omega
      · obtain rfl : k = n := by omega
        have hlkz : ¬ (k : Int) < (k : Int) := by omega
        go_wp2_with fail
        go_ret
        exact ⟨rfl, HB.out⟩

set_option maxHeartbeats 2000000 in
theorem eqRowSS_same (a a' : Option Addr) (cap cap' : Nat) (l m : List RB) (w : World) (hn : l.length ≤ 1048576) (hR : SRow w a l) (hR' : SRow w a' m) (hH : SHold w l) (hH' : SHold w m) (he : l.map RB.l = m.map RB.l) :
    Calls Tryz.prog 43 #[.slice a l.length cap, .slice a' m.length cap'] w fun e w' => e = .returned (.bool true) ∧ Below w.heap.size w w' := by
  have hlen : m.length = l.length := by simpa using (congrArg List.length he).symm
  rw [hlen]
  by_cases h0 : l = []
  · subst h0
    clear hR hR' hH hH' he hlen
    go_enter Tryz.func43, Tryz.ntmps43
    go_wp2
    refine wp_loop_rounds 1 ?_
    rw [rounds_succ]
    go_wp2
    go_ret
    exact ⟨rfl, Below.refl _ _⟩
  · obtain ⟨b, off, rfl, hlt, hc⟩ := hR.resolve_left h0
    have hm0 : m ≠ [] := by
      intro e
      subst e
      exact h0 (List.eq_nil_of_length_eq_zero (by simpa using hlen.symm))
    obtain ⟨b', off', rfl, hlt', hc'⟩ := hR'.resolve_left hm0
    have HC : Hid (∀ i x, l[i]? = some x → w.cell? ⟨b, off + i, none⟩ = some (.slice x.a x.l.length x.cap)) := hc
    have HC' : Hid (∀ i x, m[i]? = some x → w.cell? ⟨b', off' + i, none⟩ = some (.slice x.a x.l.length x.cap)) := hc'
    have HH : Hid (SHold w l) := hH
    have HH' : Hid (SHold w m) := hH'
    have HE : Hid (∀ (i : Nat) (x y : RB), l[i]? = some x → m[i]? = some y → x.l = y.l) := by
      intro i x y hx hy
      have h1 : (l.map RB.l)[i]? = some x.l := by rw [List.getElem?_map, hx]; rfl
      rw [he, List.getElem?_map, hy] at h1
      exact (Option.some.inj h1).symm
    obtain ⟨n, hnn⟩ : ∃ n, n = l.length := ⟨_, rfl⟩
    have HN : Hid (n = l.length) := hnn
    have HN' : Hid (n = m.length) := hnn.trans hlen.symm
    rw [← hnn] at hn ⊢
    clear hR hR' hc hc' hH hH' he hlen hnn h0 hm0
    go_enter Tryz.func43, Tryz.ntmps43
    go_wp2
    go_loopw [5] (fun i wr => ∃ k : Nat, k ≤ n ∧ i = .int .i64 k ∧ Hid (Below w.heap.size w wr))
      (fun i _ => n - (intOf i).toNat)
    case atStart => exact ⟨0, Nat.zero_le _, rfl, Below.refl _ _⟩
    case round =>
      obtain ⟨k, hk, rfl, HB⟩ := hrel
      by_cases hlk : k < n
      · have hlkz : (k : Int) < (n : Int) := by omega
        have hbl := fun d os => bl_trans HB.out (bl_regrown (w := wr) d os)
        obtain ⟨x, hx⟩ : ∃ x, l[k]? = some x := ⟨_, List.getElem?_eq_getElem (by rw [← HN.out]; exact hlk)⟩
        obtain ⟨y, hy⟩ : ∃ y, m[k]? = some y := ⟨_, List.getElem?_eq_getElem (by rw [← HN'.out]; exact hlk)⟩
        have a1 := fun d os => ((hbl d os).cell (p := ⟨b, off + k, none⟩) hlt).trans (HC.out k x hx)
        have e1 := fun d os => ((hbl d os).cell (p := ⟨b', off' + k, none⟩) hlt').trans (HC'.out k y hy)
        have hxy := HE.out k x y hx hy
        rw [← hxy] at e1
        have C := fun d os => Calls.regrown_of (eqRowS_same x.a y.a x.cap y.cap x.l (Go.Sort.grow (redrawn wr d) os) (HH.out x (List.mem_of_getElem? hx)).2 ((HH.out x (List.mem_of_getElem? hx)).1.below (hbl d os)) (by rw [hxy]; exact (HH'.out y (List.mem_of_getElem? hy)).1.below (hbl d os)))
        clear hx hy hbl hxy
        go_wp2_with fail
        refine wp_region_quiet_below (by kernel_rfl) (by kernel_rfl) ?_
        quiet_step (fail)
        quiet_step (fail)
        quiet_step (fail)
        quiet_step (fail)
        quiet_step (fail)
        quiet_step (fail)
        quiet_step (fail)
        quiet_step (fail)
        quiet_step (exact C _ _)
        quiet_step (fail)
        refine wpQuiet_nil ?_
        intro _ hw'
        obtain ⟨⟨dq, osq⟩, hw''⟩ := hw'
        subst hw''
        have HBq : Hid (Below w.heap.size w (Go.Sort.grow (redrawn wr dq) osq)) := bl_trans HB.out (bl_regrown (w := wr) dq osq)
        clear a1 e1 C HB
        dsimp only
        generalize Go.Sort.grow (redrawn wr dq) osq = wq at *
        go_wp2_with fail
        go_roundw
        case rel => exact ⟨k + 1, by omega, by go_num, HBq⟩
        case measure => simp [intOf]; omega
      · obtain rfl : k = n := by omega
        have hlkz : ¬ (k : Int) < (k : Int) := by omega
        go_wp2_with fail
        go_ret
        exact ⟨rfl, HB.out⟩

set_option maxHeartbeats 2000000 in
theorem eqStore_like (aT aT' aR aR' : Option Addr) (capT capT' capR capR' : Nat) (tb tb' : List TB) (rbs rbs' : List RB) (w : World) (h : SArg w aT tb aR rbs) (h' : SArg w aT' tb' aR' rbs') (he : tb.map TB.td = tb'.map TB.td) (hr : rbs.map RB.l = rbs'.map RB.l) :
    Calls Tryz.prog 11 #[.agg #[.slice aT tb.length capT, .slice aR rbs.length capR], .agg #[.slice aT' tb'.length capT', .slice aR' rbs'.length capR']] w fun e w' => e = .returned (.bool true) ∧ Below w.heap.size w w' := by
  have E1 := fun (W : World) (hW : Below w.heap.size w W) => eqTermS_like aT aT' capT capT' tb tb' W h.tlen (h.trow.below hW) (h'.trow.below hW) (h.ttxt.below hW) (h'.ttxt.below hW) he
  have HE2 : Hid (∀ W, Below w.heap.size w W → Calls Tryz.prog 43 #[.slice aR rbs.length capR, .slice aR' rbs'.length capR'] W fun e w' => e = .returned (.bool true) ∧ Below W.heap.size W w') := fun W hW => eqRowSS_same aR aR' capR capR' rbs rbs' W h.rlen (h.srow.below hW) (h'.srow.below hW) (h.hold.below hW) (h'.hold.below hW) hr
  clear h h' he hr
  go_enter Tryz.func11, Tryz.ntmps11
  go_wp2_with fail
  refine (E1 _ (bl_alloc (bl_a _) _)).mono ?_
  rintro e w1 ⟨rfl, hb1⟩
  have HB1 : Hid (Below w.heap.size w w1) := bl_trans (bl_alloc (bl_a _) _) hb1
  have c1 : w1.cell? ⟨w.heap.size, 1, none⟩ = some (.slice aR rbs.length capR) := (hb1.cell (p := ⟨w.heap.size, 1, none⟩) (by simp; omega)).trans (by simp [go_sem])
  have c2 : w1.cell? ⟨w.heap.size + 1, 1, none⟩ = some (.slice aR' rbs'.length capR') := (hb1.cell (p := ⟨w.heap.size + 1, 1, none⟩) (by simp)).trans (by simp [go_sem])
  have E2 := HE2.out w1 HB1.out
  clear E1 hb1
  go_wp2_with fail
  refine E2.mono ?_
  rintro e w2 ⟨rfl, hb2⟩
  have HB2 : Hid (Below w.heap.size w w2) := bl_trans HB1.out hb2
  clear E2 hb2 c1 c2
  go_wp2
  go_ret
  exact ⟨rfl, HB2.out⟩
end Go.Proofs.YtdcaicoomldmgaaGreatDoor
