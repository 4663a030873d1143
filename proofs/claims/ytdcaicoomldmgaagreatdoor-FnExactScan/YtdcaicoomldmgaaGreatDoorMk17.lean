/- Texts put together: StqD StqE -/
import Derived.Test.YtdcaicoomldmgaaGreatDoorMk16
/- StqD -/
namespace Go.Proofs.YtdcaicoomldmgaaGreatDoor
open Go.RowKit Go.Deep
set_option maxRecDepth 100000

theorem td_cT {x y : TD} (hx : x.good) (hy : Byt y.bs) : x.cT y = 0 ↔ x = y := by
  constructor
  · intro h
    exact TD.same hx.2.get hy.get hx.1 h
  · rintro rfl
    exact ord_cT.self x
set_option maxHeartbeats 1000000 in
theorem isSame_gb (x y : TB) (w : World) (hx : x.good) (fy : y.t.fits) (h : Bs w x.t.a x.t.len x.b) (h' : Bs w y.t.a y.t.len y.b) :
    Calls Tryz.prog 69 #[.agg #[.int .i64 x.t.k, .slice x.t.a x.t.len x.t.cap, .int .i64 x.t.n, .int .i64 x.t.s], .agg #[.int .i64 y.t.k, .slice y.t.a y.t.len y.t.cap, .int .i64 y.t.n, .int .i64 y.t.s]] w fun e w' => ∃ q, e = .returned (.bool q) ∧ (q = true ↔ x.td = y.td) ∧ Below w.heap.size w w' := by
  obtain ⟨a1, a2, a3, a4⟩ := fits_of_ok hx.1
  have C := fun o1 o2 => implCompare_any x.t.k x.t.n x.t.s y.t.k y.t.n y.t.s x.t.a y.t.a x.t.len x.t.cap y.t.len y.t.cap x.b y.b ((w.alloc o1).alloc o2) (h.below (bl_alloc (bl_a o1) o2)) (h'.below (bl_alloc (bl_a o1) o2)) a1 a2 a3 a4 fy.1 fy.2.1 fy.2.2.1 fy.2.2.2
  have HT : Hid (x.td.cT y.td = 0 ↔ x.td = y.td) := td_cT hx h'.byt
  have e : cmpT (termOk x.t.k x.b x.t.n x.t.s) (termOk y.t.k y.b y.t.n y.t.s) (cmp3 (cmpI x.t.k y.t.k) (cmpB x.b y.b) (cmpN x.t.n x.t.s.toNat y.t.n y.t.s.toNat)) = x.td.cT y.td := rfl
  rw [e] at C
  clear hx fy h h' e a1 a2 a3 a4
  obtain ⟨r, hr⟩ : ∃ r, r = x.td.cT y.td := ⟨_, rfl⟩
  have HR : Hid (r = x.td.cT y.td) := hr
  rw [← hr] at C
  clear hr
  go_enter Tryz.func69, Tryz.ntmps69
  go_wp2_with fail
  refine (C _ _).mono ?_
  rintro e w1 ⟨rfl, G⟩
  have HG : Hid (Below w.heap.size w w1) := bl_trans (bl_alloc (bl_a _) _) G
  clear C G
  by_cases hr : r = 0
  · subst hr
    go_wp2_with fail
    go_ret
    exact ⟨true, rfl, ⟨fun _ => HT.out.1 HR.out.symm, fun _ => rfl⟩, HG.out⟩
  · have hb : (r == 0) = false := beq_eq_false_iff_ne.2 hr
    go_wp2_with fail
    go_ret
    refine ⟨false, rfl, ⟨fun h => (by cases h), fun h => absurd ?_ hr⟩, HG.out⟩
    rw [HR.out]
    exact HT.out.2 h

set_option maxHeartbeats 4000000 in
theorem equalTerms_any (a a' : Option Addr) (cap cap' : Nat) (l m : List TB) (w : World) (hn : l.length ≤ 1048576) (hn' : m.length ≤ 1048576) (hR : TRow w a l) (hR' : TRow w a' m) (hT : TTxt w l) (hT' : TTxt w m) (hg : ∀ x ∈ l, x.good) (hf : ∀ x ∈ m, x.t.fits) :
    Calls Tryz.prog 68 #[.slice a l.length cap, .slice a' m.length cap', .func (.func 69) #[] #[]] w fun e w' => ∃ q, e = .returned (.bool q) ∧ (q = true ↔ l.map TB.td = m.map TB.td) ∧ Below w.heap.size w w' := by
  by_cases hlen : l.length = m.length
  rotate_left
  · have hne : ¬ l.map TB.td = m.map TB.td := by
      intro h
      exact hlen (by simpa using congrArg List.length h)
    have HNE : Hid (¬ l.map TB.td = m.map TB.td) := hne
    have h1 : ((l.length : Int) == (m.length : Int)) = false := by simp; omega
    clear hR hR' hT hT' hg hf hne
    generalize l.length = p at *
    generalize m.length = q at *
    go_enter Tryz.func68, Tryz.ntmps68
    go_wp2
    go_ret
    exact ⟨false, rfl, by simpa using HNE.out, Below.refl _ _⟩
  · by_cases h0 : l = []
    · subst h0
      have hm : m = [] := List.eq_nil_of_length_eq_zero (by simpa using hlen.symm)
      subst hm
      clear hR hR' hT hT' hg hf
      go_enter Tryz.func68, Tryz.ntmps68
      go_wp2
      refine wp_loop_rounds 1 ?_
      rw [rounds_succ]
      go_wp2
      go_ret
      exact ⟨true, rfl, by simp, Below.refl _ _⟩
    · obtain ⟨b, off, rfl, hlt, hc⟩ := hR.resolve_left h0
      have hm0 : m ≠ [] := by
        intro h
        subst h
        exact h0 (List.eq_nil_of_length_eq_zero (by simpa using hlen))
      obtain ⟨b', off', rfl, hlt', hc'⟩ := hR'.resolve_left hm0
      have HC : Hid (∀ j u, (flat4 l)[j]? = some u → w.cell? ⟨b, off + j, none⟩ = some u) := hc
      have HC' : Hid (∀ j u, (flat4 m)[j]? = some u → w.cell? ⟨b', off' + j, none⟩ = some u) := hc'
      have HSM : Hid (∀ x y W, x ∈ l → y ∈ m → Below w.heap.size w W → Calls Tryz.prog 69 #[.agg #[.int .i64 x.t.k, .slice x.t.a x.t.len x.t.cap, .int .i64 x.t.n, .int .i64 x.t.s], .agg #[.int .i64 y.t.k, .slice y.t.a y.t.len y.t.cap, .int .i64 y.t.n, .int .i64 y.t.s]] W fun e w' => ∃ q, e = .returned (.bool q) ∧ (q = true ↔ x.td = y.td) ∧ Below W.heap.size W w') := fun x y W hx hy hW => isSame_gb x y W (hg x hx) (hf y hy) ((hT x hx).below hW) ((hT' y hy).below hW)
      obtain ⟨n, hnn⟩ : ∃ n, n = l.length := ⟨_, rfl⟩
      have HN : Hid (n = l.length) := hnn
      have HN' : Hid (n = m.length) := hnn.trans hlen
      rw [← hlen, ← hnn]
      rw [← hnn] at hn
      clear hR hR' hc hc' hn' hlen hnn h0 hm0 hT hT' hg hf
      go_enter Tryz.func68, Tryz.ntmps68
      go_wp2
      go_loopw [17] (fun i wr => ∃ k : Nat, k ≤ n ∧ i = .int .i64 k ∧ Hid (∀ j x y, j < k → l[j]? = some x → m[j]? = some y → x.td = y.td) ∧ Hid (Below w.heap.size w wr))
        (fun i _ => n - (intOf i).toNat)
      case atStart => exact ⟨0, Nat.zero_le _, rfl, fun j x y hj => by omega, Below.refl _ _⟩
      case round =>
        obtain ⟨k, hk, rfl, HE, HB⟩ := hrel
        by_cases hlk : k < n
        · have hkl : k < l.length := by rw [← HN.out]; exact hlk
          have hkm : k < m.length := by rw [← HN'.out]; exact hlk
          obtain ⟨x, hx⟩ : ∃ x, x = l[k] := ⟨_, rfl⟩
          obtain ⟨y, hy⟩ : ∃ y, y = m[k] := ⟨_, rfl⟩
          have HX : Hid (l[k]? = some x) := (show l[k]? = some x by rw [hx]; exact List.getElem?_eq_getElem hkl)
          have HY : Hid (m[k]? = some y) := (show m[k]? = some y by rw [hy]; exact List.getElem?_eq_getElem hkm)
          have hcx := TRow.at (l := l) (b := b) (off := off) (w := wr) (fun j u hu => (HB.out.cell (p := ⟨b, off + j, none⟩) hlt).trans (HC.out j u hu)) k hkl
          have hcy := fun o => TRow.at (l := m) (b := b') (off := off') (w := wr.alloc o) (fun j u hu => ((bl_alloc HB.out o).cell (p := ⟨b', off' + j, none⟩) hlt').trans (HC'.out j u hu)) k hkm
          rw [← hx] at hcx
          rw [← hy] at hcy
          obtain ⟨a0, a1, a2, a3⟩ := hcx
          have b0 := fun o => (hcy o).1
          have b1 := fun o => (hcy o).2.1
          have b2 := fun o => (hcy o).2.2.1
          have b3 := fun o => (hcy o).2.2.2
          have SM := fun W hW => HSM.out x y W (List.mem_of_getElem? HX.out) (List.mem_of_getElem? HY.out) hW
          clear hcy hx hy
          go_wp2_with fail
          refine (SM _ (bl_alloc (bl_alloc HB.out _) _)).mono ?_
          rintro e w2 ⟨q2, rfl, hq2, hb2⟩
          have HQ2 : Hid (q2 = true ↔ x.td = y.td) := hq2
          have HB2 : Hid (Below w.heap.size w w2) := bl_trans (bl_alloc (bl_alloc HB.out _) _) hb2
          clear SM a0 a1 a2 a3 b0 b1 b2 b3 hb2 hq2 HB
          cases q2 with
          | false =>
            go_wp2_with fail
            go_ret
            have : ¬ l.map TB.td = m.map TB.td := by
              refine lists_ne_at (k := k) (x := x.td) (y := y.td) (by rw [List.getElem?_map, HX.out]; rfl) (by rw [List.getElem?_map, HY.out]; rfl) fun h => ?_
              have := HQ2.out.2 h
              simp at this
            exact ⟨false, rfl, ⟨fun h => (by cases h), fun h => absurd h this⟩, HB2.out⟩
          | true =>
            go_wp2_with fail
            go_roundw
            case rel =>
              refine ⟨k + 1, by omega, by go_num, fun j x' y' hj hx hy => ?_, HB2⟩
              by_cases e : j = k
              · subst e
                have h1 := HX.out
                have h2 := HY.out
                rw [h1] at hx
                rw [h2] at hy
                rw [← Option.some.inj hx, ← Option.some.inj hy]
                exact HQ2.out.1 (by simp)
              · exact HE.out j x' y' (by omega) hx hy
            case measure => simp [intOf]; omega
        · obtain rfl : k = n := by omega
          go_wp2_with fail
          go_ret
          have : l.map TB.td = m.map TB.td := by
            refine lists_eq_of (by rw [List.length_map, List.length_map, ← HN.out, HN'.out]) fun i x y hx hy => ?_
            rw [List.getElem?_map] at hx hy
            obtain ⟨x', hx', rfl⟩ := Option.map_eq_some_iff.1 hx
            obtain ⟨y', hy', rfl⟩ := Option.map_eq_some_iff.1 hy
            refine HE.out i x' y' ?_ hx' hy'
            have := (List.getElem?_eq_some_iff.1 hx').1
            rw [HN.out]
            exact this
          exact ⟨true, rfl, ⟨fun _ => this, fun _ => rfl⟩, HB.out⟩

/-- A list of rows of numbers, where it lies. -/
structure RB where
  a : Option Addr
  cap : Nat
  l : List (Int × Int × Int)
def RB.v (x : RB) : Value := .slice x.a x.l.length x.cap
/-- Lists of rows behind an address. -/
def SRow (w : World) (a : Option Addr) (l : List RB) : Prop := l = [] ∨ ∃ b off, a = some ⟨b, off, none⟩ ∧ b < w.heap.size ∧ ∀ i x, l[i]? = some x → w.cell? ⟨b, off + i, none⟩ = some (.slice x.a x.l.length x.cap)
theorem SRow.below {w w' : World} {a : Option Addr} {l : List RB} (h : SRow w a l) (hb : Below w.heap.size w w') : SRow w' a l := by
  rcases h with h | ⟨b, off, ha, hl, hc⟩
  · exact .inl h
  · exact .inr ⟨b, off, ha, Nat.lt_of_lt_of_le hl hb.size, fun i x hx => (hb.cell (p := ⟨b, off + i, none⟩) hl).trans (hc i x hx)⟩
/-- What they hold. -/
def SHold (w : World) (l : List RB) : Prop := ∀ x ∈ l, RRow w x.a x.l ∧ x.l.length ≤ 1048576
theorem SHold.below {w w' : World} {l : List RB} (h : SHold w l) (hb : Below w.heap.size w w') : SHold w' l := fun x hx => ⟨(h x hx).1.below hb, (h x hx).2⟩

set_option maxHeartbeats 4000000 in
theorem equalRowss_any (a a' : Option Addr) (cap cap' : Nat) (l m : List RB) (w : World) (hn : l.length ≤ 1048576) (hn' : m.length ≤ 1048576) (hR : SRow w a l) (hR' : SRow w a' m) (hH : SHold w l) (hH' : SHold w m) :
    Calls Tryz.prog 70 #[.slice a l.length cap, .slice a' m.length cap', .func (.func 71) #[] #[]] w fun e w' => e = .returned (.bool (decide (l.map RB.l = m.map RB.l))) ∧ Below w.heap.size w w' := by
  by_cases hlen : l.length = m.length
  rotate_left
  · have hne : decide (l.map RB.l = m.map RB.l) = false := by
      simp only [decide_eq_false_iff_not]
      intro h
      exact hlen (by simpa using congrArg List.length h)
    rw [hne]
    have h1 : ((l.length : Int) == (m.length : Int)) = false := by simp; omega
    clear hR hR' hH hH'
    generalize l.length = p at *
    generalize m.length = q at *
    go_enter Tryz.func70, Tryz.ntmps70
    go_wp2
    go_ret
    exact ⟨rfl, Below.refl _ _⟩
  · by_cases h0 : l = []
    · subst h0
      have hm : m = [] := List.eq_nil_of_length_eq_zero (by simpa using hlen.symm)
      subst hm
      clear hR hR' hH hH'
      go_enter Tryz.func70, Tryz.ntmps70
      go_wp2
      refine wp_loop_rounds 1 ?_
      rw [rounds_succ]
      go_wp2
      go_ret
      exact ⟨rfl, Below.refl _ _⟩
    · obtain ⟨b, off, rfl, hlt, hc⟩ := hR.resolve_left h0
      have hm0 : m ≠ [] := by
        intro h
        subst h
        exact h0 (List.eq_nil_of_length_eq_zero (by simpa using hlen))
      obtain ⟨b', off', rfl, hlt', hc'⟩ := hR'.resolve_left hm0
      have HC : Hid (∀ i x, l[i]? = some x → w.cell? ⟨b, off + i, none⟩ = some (.slice x.a x.l.length x.cap)) := hc
      have HC' : Hid (∀ i x, m[i]? = some x → w.cell? ⟨b', off' + i, none⟩ = some (.slice x.a x.l.length x.cap)) := hc'
      have HSM : Hid (∀ x y W, x ∈ l → y ∈ m → Below w.heap.size w W → Calls Tryz.prog 71 #[.slice x.a x.l.length x.cap, .slice y.a y.l.length y.cap] W fun e w' => e = .returned (.bool (decide (x.l = y.l))) ∧ Below W.heap.size W w') := fun x y W hx hy hW => equalRows_any x.a y.a x.cap y.cap x.l y.l W (hH x hx).2 (hH' y hy).2 ((hH x hx).1.below hW) ((hH' y hy).1.below hW)
      obtain ⟨n, hnn⟩ : ∃ n, n = l.length := ⟨_, rfl⟩
      have HN : Hid (n = l.length) := hnn
      have HN' : Hid (n = m.length) := hnn.trans hlen
      rw [← hlen, ← hnn]
      rw [← hnn] at hn
      obtain ⟨q, hq⟩ : ∃ q, q = decide (l.map RB.l = m.map RB.l) := ⟨_, rfl⟩
      have HQ : Hid (q = decide (l.map RB.l = m.map RB.l)) := hq
      rw [← hq]
      clear hR hR' hc hc' hn' hlen hnn hq h0 hm0 hH hH'
      go_enter Tryz.func70, Tryz.ntmps70
      go_wp2
      go_loopw [17] (fun i wr => ∃ k : Nat, k ≤ n ∧ i = .int .i64 k ∧ Hid (∀ j x y, j < k → l[j]? = some x → m[j]? = some y → x.l = y.l) ∧ Hid (Below w.heap.size w wr))
        (fun i _ => n - (intOf i).toNat)
      case atStart => exact ⟨0, Nat.zero_le _, rfl, fun j x y hj => by omega, Below.refl _ _⟩
      case round =>
        obtain ⟨k, hk, rfl, HE, HB⟩ := hrel
        by_cases hlk : k < n
        · have hkl : k < l.length := by rw [← HN.out]; exact hlk
          have hkm : k < m.length := by rw [← HN'.out]; exact hlk
          obtain ⟨x, hx⟩ : ∃ x, l[k]? = some x := ⟨_, List.getElem?_eq_getElem hkl⟩
          obtain ⟨y, hy⟩ : ∃ y, m[k]? = some y := ⟨_, List.getElem?_eq_getElem hkm⟩
          have HX : Hid (l[k]? = some x) := hx
          have HY : Hid (m[k]? = some y) := hy
          have a0 := (HB.out.cell (p := ⟨b, off + k, none⟩) hlt).trans (HC.out k x hx)
          have b0 := (HB.out.cell (p := ⟨b', off' + k, none⟩) hlt').trans (HC'.out k y hy)
          have SM := fun W hW => HSM.out x y W (List.mem_of_getElem? HX.out) (List.mem_of_getElem? HY.out) hW
          clear hx hy
          obtain ⟨q2, hq2⟩ : ∃ q2, q2 = decide (x.l = y.l) := ⟨_, rfl⟩
          have HQ2 : Hid (q2 = decide (x.l = y.l)) := hq2
          rw [← hq2] at SM
          clear hq2
          go_wp2_with fail
          refine (SM _ HB.out).mono ?_
          rintro e w2 ⟨rfl, hb2⟩
          have HB2 : Hid (Below w.heap.size w w2) := bl_trans HB.out hb2
          clear SM a0 b0 hb2 HB
          cases q2 with
          | false =>
            go_wp2_with fail
            go_ret
            have : q = false := by
              rw [HQ.out]
              simp only [decide_eq_false_iff_not]
              refine lists_ne_at (k := k) (x := x.l) (y := y.l) (by rw [List.getElem?_map, HX.out]; rfl) (by rw [List.getElem?_map, HY.out]; rfl) fun h => ?_
              have := HQ2.out
              simp [h] at this
            rw [this]
            exact ⟨rfl, HB2.out⟩
          | true =>
            go_wp2_with fail
            go_roundw
            case rel =>
              refine ⟨k + 1, by omega, by go_num, fun j x' y' hj hx hy => ?_, HB2⟩
              by_cases e : j = k
              · subst e
                have h1 := HX.out
                have h2 := HY.out
                rw [h1] at hx
                rw [h2] at hy
                rw [← Option.some.inj hx, ← Option.some.inj hy]
                exact of_decide_eq_true HQ2.out.symm
              · exact HE.out j x' y' (by omega) hx hy
            case measure => simp [intOf]; omega
        · obtain rfl : k = n := by omega
          go_wp2_with fail
          go_ret
          have : q = true := by
            rw [HQ.out, decide_eq_true_eq]
            refine lists_eq_of (by rw [List.length_map, List.length_map, ← HN.out, HN'.out]) fun i x y hx hy => ?_
            rw [List.getElem?_map] at hx hy
            obtain ⟨x', hx', rfl⟩ := Option.map_eq_some_iff.1 hx
            obtain ⟨y', hy', rfl⟩ := Option.map_eq_some_iff.1 hy
            refine HE.out i x' y' ?_ hx' hy'
            have := (List.getElem?_eq_some_iff.1 hx').1
            rw [HN.out]
            exact this
          rw [this]
          exact ⟨rfl, HB.out⟩
end Go.Proofs.YtdcaicoomldmgaaGreatDoor

/- StqE -/
namespace Go.Proofs.YtdcaicoomldmgaaGreatDoor
open Go.RowKit Go.Deep
set_option maxRecDepth 100000

/-- All blocks but p and the row are as they were. -/
structure Kept (p : Nat) (row : Option Nat) (w w' : World) : Prop where
  size : w.heap.size ≤ w'.heap.size
  block : ∀ b, b < w.heap.size → b ≠ p → some b ≠ row → w'.heap[b]? = w.heap[b]?
theorem Kept.drew0 (p : Nat) (row : Option Nat) (w : World) : Kept p row w w.drew := ⟨Nat.le_refl _, fun _ _ _ _ => rfl⟩
theorem Kept.refl (p : Nat) (row : Option Nat) (w : World) : Kept p row w w := ⟨Nat.le_refl _, fun _ _ _ _ => rfl⟩
theorem Kept.below {p : Nat} {row : Option Nat} {w w' w'' : World} (h : Kept p row w w') (hb : Below w'.heap.size w' w'') : Kept p row w w'' :=
  ⟨Nat.le_trans h.size hb.size, fun b h1 h2 h3 => (hb.block b (Nat.lt_of_lt_of_le h1 h.size)).trans (h.block b h1 h2 h3)⟩
theorem Kept.alloc {p : Nat} {row : Option Nat} {w w' : World} (h : Kept p row w w') (o : Obj) : Kept p row w (w'.alloc o) := h.below (bl_a o)
theorem Kept.grown {p : Nat} {row : Option Nat} {w w' w'' : World} (h : Kept p row w w') (hg : w'.grownBy w'' row) : Kept p row w w'' :=
  ⟨Nat.le_trans h.size hg.size, fun b h1 h2 h3 => (hg.block b (Nat.lt_of_lt_of_le h1 h.size) h3).trans (h.block b h1 h2 h3)⟩
theorem Kept.set {p : Nat} {row : Option Nat} {w w' : World} (h : Kept p row w w') (i : Nat) (v : Value) : Kept p row w (w'.setCell ⟨p, i, none⟩ v) :=
  ⟨by simpa [World.setCell] using h.size, fun b h1 h2 h3 => (Below.heap_setCell _ _ _ _ h2).trans (h.block b h1 h2 h3)⟩
theorem Kept.cell {p : Nat} {row : Option Nat} {w w' : World} (h : Kept p row w w') {b o : Nat} (h1 : b < w.heap.size) (h2 : b ≠ p) (h3 : some b ≠ row) : w'.cell? ⟨b, o, none⟩ = w.cell? ⟨b, o, none⟩ := World.cell?_of_block (w := w) (a := ⟨b, o, none⟩) (h.block b h1 h2 h3)

def enc12 (T U V : Nat → Tm) (i : Nat) : List Value := enc4 (T i) ++ (enc4 (U i) ++ enc4 (V i))
theorem enc12_len (T U V : Nat → Tm) (i : Nat) : (enc12 T U V i).length = 12 := by simp [enc12, enc4]
def flat12 (T U V : Nat → Tm) (k : Nat) : List Value := (List.range k).flatMap (enc12 T U V)
theorem flat12_len (T U V : Nat → Tm) (k : Nat) : (flat12 T U V k).length = k * 12 := by
  have := flatMap_len (enc12 T U V) 12 (enc12_len T U V) (List.range k)
  simpa [flat12] using this
theorem flat12_succ (T U V : Nat → Tm) (k : Nat) : flat12 T U V (k + 1) = flat12 T U V k ++ enc12 T U V k := by simp [flat12, List.range_succ]
theorem flat12_get (T U V : Nat → Tm) (k i c : Nat) (hi : i < k) (hc : c < 12) : (flat12 T U V k)[i * 12 + c]? = (enc12 T U V i)[c]? := by
  have := flatMap_get (enc12 T U V) 12 (enc12_len T U V) (List.range k) i c (by simpa using hi) hc
  rw [List.getElem_range] at this
  exact this
theorem enc12_one (T U V : Nat → Tm) (i : Nat) : ∀ u ∈ enc12 T U V i, u.oneCell' = true := by
  intro u hu
  simp only [enc12, enc4, List.mem_append, List.mem_cons, List.not_mem_nil, or_false] at hu
  rcases hu with (rfl | rfl | rfl | rfl) | (rfl | rfl | rfl | rfl) | (rfl | rfl | rfl | rfl) <;> rfl
/-- A row of triples of the call's own, or none as yet. -/
def OwnGR (w : World) (B : Nat) (v : Value) (T U V : Nat → Tm) (k : Nat) : Prop := w.ownsRow B 110 12 v k (flat12 T U V k) ∧ ∀ g, v.ownBlock = some g → B ≤ g ∧ g < w.heap.size
theorem OwnGR.nil (w : World) (B : Nat) (T U V : Nat → Tm) : OwnGR w B (.slice none 0 0) T U V 0 := ⟨World.ownsRow_nil _ _ _ _, fun g h => by cases h⟩
theorem OwnGR.below {w w' : World} {B : Nat} {v : Value} {T U V : Nat → Tm} {k : Nat} (h : OwnGR w B v T U V k) (hb : Below w.heap.size w w') : OwnGR w' B v T U V k := by
  obtain ⟨⟨h1, h2⟩, hl⟩ := h
  refine ⟨⟨h1, ?_⟩, fun g hg => ⟨(hl g hg).1, Nat.lt_of_lt_of_le (hl g hg).2 hb.size⟩⟩
  rcases h2 with h2 | ⟨g', cap', cur, hv, hB, hh, r⟩
  · exact .inl h2
  · refine .inr ⟨g', cap', cur, hv, hB, ?_, r⟩
    have := (hl g' (by rw [hv]; rfl)).2
    rw [hb.block g' this]
    exact hh
theorem OwnGR.but {w w' : World} {B c : Nat} {v : Value} {T U V : Nat → Tm} {k : Nat} (h : OwnGR w B v T U V k) (hb : But c w w') (hc : c < B) : OwnGR w' B v T U V k := by
  obtain ⟨⟨h1, h2⟩, hl⟩ := h
  refine ⟨⟨h1, ?_⟩, fun g hg => ⟨(hl g hg).1, by rw [hb.size]; exact (hl g hg).2⟩⟩
  rcases h2 with h2 | ⟨g', cap', cur, hv, hB, hh, r⟩
  · exact .inl h2
  · refine .inr ⟨g', cap', cur, hv, hB, ?_, r⟩
    rw [hb.block g' (by omega)]
    exact hh
theorem OwnGR.form {w : World} {B : Nat} {v : Value} {T U V : Nat → Tm} {k : Nat} (h : OwnGR w B v T U V k) : ∃ a cap, v = .slice a k cap ∧ Rows w a k T U V := by
  rcases h.1.2 with ⟨rfl, rfl⟩ | ⟨g, cap, cur, rfl, hB, hh, hle, _, hsz, htk⟩
  · exact ⟨none, 0, rfl, .inl rfl⟩
  · have hlt := (h.2 g rfl).2
    refine ⟨some ⟨g, 0, none⟩, cap, rfl, .inr ⟨g, 0, rfl, hlt, fun i hi => ?_⟩⟩
    have hc : ∀ c u, c < 12 → (enc12 T U V i)[c]? = some u → w.cell? ⟨g, i * 12 + c, none⟩ = some u := by
      intro c u hc hu
      rw [← flat12_get T U V k i c hi hc, ← htk, List.getElem?_take, if_pos (by omega)] at hu
      simp only [World.cell?, hh]
      simpa using hu
    rw [Nat.zero_add]
    exact ⟨⟨hc 0 _ (by omega) rfl, hc 1 _ (by omega) rfl, hc 2 _ (by omega) rfl, hc 3 _ (by omega) rfl⟩, ⟨hc 4 _ (by omega) rfl, hc 5 _ (by omega) rfl, hc 6 _ (by omega) rfl, hc 7 _ (by omega) rfl⟩, ⟨hc 8 _ (by omega) rfl, hc 9 _ (by omega) rfl, hc 10 _ (by omega) rfl, hc 11 _ (by omega) rfl⟩⟩
theorem one_triple (w : World) (T U V : Nat → Tm) (i : Nat) : ∀ j u, (enc12 T U V i)[j]? = some u → (w.alloc (.cells (cells12 (T i) (U i) (V i)) 110)).cell? ((⟨w.heap.size, 0, none⟩ : Addr).add j) = some u := by
  intro j u hj
  have ea : (⟨w.heap.size, 0, none⟩ : Addr).add j = ⟨w.heap.size, j, none⟩ := by
    by_cases h0 : j = 0 <;> simp [Addr.add, h0]
  rw [ea]
  simp only [go_sem]
  simp [cells12]
  exact hj
/-- What append leaves of such a row. -/
theorem ownGR_more {w' : World} {B g cap k : Nat} {T U V : Nat → Tm} (hown : w'.ownsRow B 110 12 (.slice (some ⟨g, 0, none⟩) (k + 1) cap) (k + 1) (flat12 T U V k ++ enc12 T U V k)) (hlt : g < w'.heap.size) : OwnGR w' B (.slice (some ⟨g, 0, none⟩) (k + 1) cap) T U V (k + 1) := by
  refine ⟨by rw [flat12_succ]; exact hown, fun g' hg' => ?_⟩
  have : g = g' := by simpa [Value.ownBlock] using hg'
  subst this
  rcases hown.2 with ⟨hv, _⟩ | ⟨g0, c0, cur, hv, hb, _⟩
  · cases hv
  · cases hv; exact ⟨hb, hlt⟩
end Go.Proofs.YtdcaicoomldmgaaGreatDoor
