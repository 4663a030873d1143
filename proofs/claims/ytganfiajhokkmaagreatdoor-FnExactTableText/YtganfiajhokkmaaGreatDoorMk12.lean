/- Texts put together: ShwH GraC GraE TreL TreM TreO TreP TreT TreU TreZ -/
import Derived.Test.YtganfiajhokkmaaGreatDoorMk11
import Derived.Test.YtganfiajhokkmaaGreatDoorMk03
import Derived.Deep.RegionHeld3
import Derived.Test.YtganfiajhokkmaaGreatDoorMk07
/- ShwH -/
namespace Go.Proofs.YtganfiajhokkmaaGreatDoor
open Go.RowKit Go.Deep
set_option maxRecDepth 100000

/-- What a term that may be shows as. -/
def showL (k n s : Int) (bs : List Int) : List Int :=
  if k = 0 then 60 :: (bs ++ [62]) else if k = 1 then 95 :: 58 :: digitsL n.toNat else if k = 2 then 34 :: (esc bs ++ [34]) else if n < 0 then 45 :: numL (-n) s.toNat else numL n s.toNat
/-- What Show writes. -/
def shownL (k n s : Int) (bs : List Int) : List Int := if termOk k bs n s = true then showL k n s bs else []

theorem digitsL_byt (n : Nat) : Byt (digitsL n) := by
  induction n using Nat.strongRecOn with
  | ind n ih =>
    by_cases h : n < 10
    · rw [digitsL_small h]
      exact Byt.cons (by omega) Byt.nil
    · rw [digitsL_step h]
      exact (ih (n / 10) (by omega)).app (Byt.cons (by omega) Byt.nil)
theorem esc_byt {bs : List Int} (h : Byt bs) : Byt (esc bs) := by
  intro x hx
  unfold esc at hx
  obtain ⟨b, hb, hx⟩ := List.mem_flatMap.1 hx
  have := h b hb
  split at hx
  · simp at hx
    rcases hx with rfl | rfl
    · omega
    · exact this
  · simp at hx
    subst hx
    exact this
theorem rep_byt (n : Nat) : Byt (List.replicate n 48) := by
  intro x hx
  have := (List.mem_replicate.1 hx).2
  omega
theorem numL_byt (n : Int) (s : Nat) : Byt (numL n s) := by
  unfold numL
  refine (digitsL_byt _).app ?_
  split
  · exact Byt.nil
  · exact Byt.cons (by omega) ((rep_byt _).app (digitsL_byt _))
theorem showL_byt {k n s : Int} {bs : List Int} (h : Byt bs) : Byt (showL k n s bs) := by
  unfold showL
  split
  · exact Byt.cons (by omega) (h.app (Byt.cons (by omega) Byt.nil))
  split
  · exact Byt.cons (by omega) (Byt.cons (by omega) (digitsL_byt _))
  split
  · exact Byt.cons (by omega) ((esc_byt h).app (Byt.cons (by omega) Byt.nil))
  split
  · exact Byt.cons (by omega) (numL_byt _ _)
  · exact numL_byt _ _
theorem numOk_bounds {n s : Int} (h : numOk n s = true) : 0 ≤ s ∧ s ≤ 6 ∧ -1000000000000000 ≤ n ∧ n ≤ 1000000000000000 := by
  simp [numOk] at h
  exact ⟨h.1.1.1.1, h.1.1.1.2, h.1.1.2, h.1.2⟩
theorem numL_len (n : Int) (s : Nat) (h0 : 0 ≤ n) (h1 : n ≤ 1000000000000000) (hs : s ≤ 6) : 1 ≤ (numL n s).length ∧ (numL n s).length ≤ 40 := by
  have hp := p10_pos s
  have hp6 := p10_le hs
  have d0 : 0 ≤ n / p10 s := Int.ediv_nonneg h0 (by omega)
  have d1 : n / p10 s ≤ n := Int.ediv_le_self _ h0
  have m0 : 0 ≤ n % p10 s := Int.emod_nonneg _ (by omega)
  have m1 : n % p10 s < p10 s := Int.emod_lt_of_pos _ (by omega)
  have hL1 := digitsL_len 16 (n / p10 s).toNat (by omega)
  have hL2 := digitsL_len 6 (n % p10 s).toNat (by omega)
  have hq1 := digitsL_pos (n / p10 s).toNat
  unfold numL
  split
  · simp; omega
  · simp; omega
theorem showL_len {k n s : Int} {bs : List Int} (h : termOk k bs n s = true) : 1 ≤ (showL k n s bs).length ∧ (showL k n s bs).length ≤ 64 := by
  unfold showL
  unfold termOk at h
  split at h
  · rename_i hk
    rw [if_pos hk]
    simp [nameOk] at h
    simp
    omega
  split at h
  · rename_i h0 hk
    rw [if_neg h0, if_pos hk]
    have := digitsL_len 18 n.toNat (by simp at h; omega)
    simp
    omega
  split at h
  · rename_i h0 h1 hk
    rw [if_neg h0, if_neg h1, if_pos hk]
    simp [textOk] at h
    have := esc_len bs
    simp
    omega
  split at h
  · rename_i h0 h1 h2 hk
    rw [if_neg h0, if_neg h1, if_neg h2]
    simp only [Bool.and_eq_true] at h
    have hb := numOk_bounds h.2
    split
    · have := numL_len (-n) s.toNat (by omega) (by omega) (by omega)
      simp
      omega
    · have := numL_len n s.toNat (by omega) (by omega) (by omega)
      omega
  · cases h
/-- A text that is new: none, or in a block of its own from B on. -/
def Nw (w : World) (B : Nat) (a : Option Addr) (len : Nat) (bs : List Int) : Prop := (a = none ∧ len = 0 ∧ bs = []) ∨ ∃ g, a = some ⟨g, 0, none⟩ ∧ B ≤ g ∧ OwnT w g len bs
theorem Nw.bs {w : World} {B : Nat} {a : Option Addr} {len : Nat} {bs : List Int} (h : Nw w B a len bs) : Bs w a len bs := by
  rcases h with ⟨rfl, rfl, rfl⟩ | ⟨g, rfl, _, ho⟩
  · exact ⟨rfl, by omega, by simp, .inl rfl⟩
  · exact ho.1
theorem Nw.below {w w' : World} {B : Nat} {a : Option Addr} {len : Nat} {bs : List Int} (h : Nw w B a len bs) (hb : Below w.heap.size w w') : Nw w' B a len bs := by
  rcases h with h | ⟨g, ha, hB, ho⟩
  · exact .inl h
  · exact .inr ⟨g, ha, hB, ho.below hb⟩
theorem Nw.mono {w : World} {B B' : Nat} {a : Option Addr} {len : Nat} {bs : List Int} (h : Nw w B a len bs) (hB' : B' ≤ B) : Nw w B' a len bs := by
  rcases h with h | ⟨g, ha, hB, ho⟩
  · exact .inl h
  · exact .inr ⟨g, ha, by omega, ho⟩
theorem Nw.nil (w : World) (B : Nat) : Nw w B none 0 [] := .inl ⟨rfl, rfl, rfl⟩
theorem Row8.nw {w : World} {B g n cap : Nat} {bs : List Int} (h : Row8 w B g n cap bs) (hb : Byt bs) (hl : n ≤ 1048576) : Nw w B (some ⟨g, 0, none⟩) n bs := by
  have hn := h.news
  have hge := h.ge
  have hlen := h.len
  refine .inr ⟨g, rfl, hge, ⟨hlen, hl, hb.get, .inr ⟨g, 0, rfl, h.2, fun i hi => ?_⟩⟩, h.2, fun i hi => ?_, fun i hi => ?_⟩
  · have ea : (⟨g, 0, none⟩ : Addr).add i = ⟨g, 0 + i, none⟩ := by
      by_cases h0 : i = 0 <;> simp [Addr.add, h0]
    rw [← ea]
    refine hn i _ ?_
    rw [List.getElem?_map, List.getElem?_eq_getElem (by omega)]
    rfl
  · have ea : (⟨g, 0, none⟩ : Addr).add i = ⟨g, i, none⟩ := by
      by_cases h0 : i = 0 <;> simp [Addr.add, h0]
    refine ⟨bs[i]?.getD 0, ?_⟩
    rw [← ea]
    refine hn i _ ?_
    rw [List.getElem?_map, List.getElem?_eq_getElem (by omega)]
    rfl
  · rcases h.1.2 with ⟨hv, _⟩ | ⟨g', cap', cur, hv, hB, hh, _⟩
    · cases hv
    · cases hv
      simp [World.frozen?, hh]
theorem Tx.nw {w : World} {B : Nat} {a : Option Addr} {len cap : Nat} {bs : List Int} (h : Tx w B a len cap bs) : Nw w B a len bs := by
  rcases h.2 with ⟨rfl, rfl, _⟩ | ⟨g, rfl, hB, hg, hl, hc⟩
  · exact .inl ⟨rfl, rfl, List.eq_nil_of_length_eq_zero h.1.1⟩
  · exact .inr ⟨g, rfl, hB, h.1, hg, fun i hi => (hc i (by omega)).1, fun i hi => (hc i (by omega)).2⟩

/-- What Show answers. -/
def TxRes (w : World) (bs : List Int) (e : Ending) (w' : World) : Prop := ∃ a cap, e = .returned (.slice a bs.length cap) ∧ Nw w' w.heap.size a bs.length bs ∧ Below w.heap.size w w'
theorem DigRes.tx {w : World} {bs : List Int} {e : Ending} {w' : World} (h : DigRes w bs e w') (hb : Byt bs) (hl : bs.length ≤ 1048576) : TxRes w bs e w' := by
  obtain ⟨g, cap, he, hr, hbl⟩ := h
  exact ⟨_, cap, he, hr.nw hb hl, hbl⟩
theorem TxRes.later {w w1 : World} {bs : List Int} {e : Ending} {w' : World} (h : TxRes w1 bs e w') (hb : Below w.heap.size w w1) : TxRes w bs e w' := by
  obtain ⟨a, cap, he, hr, hbl⟩ := h
  exact ⟨a, cap, he, hr.mono hb.size, bl_trans hb hbl⟩
theorem DigRes.later {w w1 : World} {bs : List Int} {e : Ending} {w' : World} (h : DigRes w1 bs e w') (hb : Below w.heap.size w w1) : DigRes w bs e w' := by
  obtain ⟨g, cap, he, hr, hbl⟩ := h
  exact ⟨g, cap, he, hr.mono hb.size, bl_trans hb hbl⟩

theorem l1show_num (n s : Int) (a : Option Addr) (len cap : Nat) (w : World) (h : numOk n s = true) :
    Calls Tryz.prog 38 #[.agg #[.int .i64 3, .slice a len cap, .int .i64 n, .int .i64 s]] w fun e w' => DigRes w (showL 3 n s []) e w' := by
  have hb := numOk_bounds h
  have C : ∀ w, Calls Tryz.prog 53 #[.agg #[.int .i64 3, .slice a len cap, .int .i64 n, .int .i64 s]] w fun e w' => DigRes w (showL 3 n s []) e w' := by
    intro w
    obtain ⟨t, rfl⟩ : ∃ t : Nat, s = t := ⟨s.toNat, by omega⟩
    by_cases hn : n < 0
    · obtain ⟨m, rfl⟩ : ∃ m, n = -m := ⟨-n, by omega⟩
      have := l1number_neg m t a len cap w (by omega) (by omega) (by omega)
      have e : showL 3 (-m) t [] = 45 :: numL m t := by simp [showL]; omega
      rw [e]
      exact this
    · have := l1number_pos n t a len cap w (by omega) (by omega) (by omega)
      have e : showL 3 n t [] = numL n t := by simp [showL, hn]
      rw [e]
      exact this
  generalize showL 3 n s [] = L at *
  go_enter Tryz.func38, Tryz.ntmps38
  go_wp2_with fail
  refine (C _).mono ?_
  intro e w1 hR
  have hR' := hR.later (bl_a _)
  clear hR
  obtain ⟨g, cp, rfl, hr, hbl⟩ := hR'
  go_wp2_with fail
  go_ret
  exact ⟨g, cp, rfl, hr, hbl⟩

theorem l1show_any (k n s : Int) (a : Option Addr) (len cap : Nat) (bs : List Int) (w : World) (hB : Bs w a len bs) (hok : termOk k bs n s = true) :
    Calls Tryz.prog 38 #[.agg #[.int .i64 k, .slice a len cap, .int .i64 n, .int .i64 s]] w fun e w' => DigRes w (showL k n s bs) e w' := by
  have h := hok
  unfold termOk at h
  split at h
  · rename_i hk
    subst hk
    simp [nameOk] at h
    have hl := hB.1
    rcases hB.2.2.2 with h0 | ⟨b, off, rfl, hr⟩
    · omega
    · have := l1show_name n s b off len cap bs w hB (by omega)
      simpa [showL] using this
  split at h
  · rename_i h0 hk
    subst hk
    simp at h
    obtain ⟨m, rfl⟩ : ∃ m : Nat, n = m := ⟨n.toNat, by omega⟩
    have := l1show_blank m s a len cap w (by omega)
    simpa [showL] using this
  split at h
  · rename_i h0 h1 hk
    subst hk
    have := l1show_text n s a len cap bs w hB
    simpa [showL] using this
  split at h
  · rename_i h0 h1 h2 hk
    subst hk
    simp only [Bool.and_eq_true] at h
    have := l1show_num n s a len cap w h.2
    have e : showL 3 n s bs = showL 3 n s [] := by simp [showL]
    rw [e]
    exact this
  · cases h

end Go.Proofs.YtganfiajhokkmaaGreatDoor

/- GraC -/
namespace Go.Proofs.YtganfiajhokkmaaGreatDoor
open Go.RowKit Go.Deep

/-- All of the first N places of block g are there. -/
def Ex (w : World) (g N : Nat) : Prop := ∀ j, j < N → ∃ v, w.cell? ⟨g, j, none⟩ = some v
theorem Ex.set {w : World} {g N i : Nat} {v : Value} (h : Ex w g N) : Ex (w.setCell ⟨g, i, none⟩ v) g N := by
  intro j hj
  obtain ⟨u, hu⟩ := h j hj
  by_cases e : j = i
  · subst e; exact ⟨v, set_same hu⟩
  · exact ⟨u, by rw [set_other e]; exact hu⟩
theorem Ex.put {w : World} {g N i0 i1 i2 i3 : Nat} {x : Tm} (h : Ex w g N) : Ex (put4 w g i0 i1 i2 i3 x) g N := (((h.set).set).set).set
theorem Ex.below {w w' : World} {g N : Nat} (h : Ex w g N) (hg : g < w.heap.size) (hb : Below w.heap.size w w') : Ex w' g N := fun j hj => by
  obtain ⟨u, hu⟩ := h j hj
  exact ⟨u, (hb.cell (p := ⟨g, j, none⟩) hg).trans hu⟩
/-- .. and may be written. -/
def Wr (w : World) (g N : Nat) : Prop := ∀ j, j < N → w.frozen? ⟨g, j, none⟩ = false
theorem Wr.put {w : World} {g N i0 i1 i2 i3 : Nat} {x : Tm} (h : Wr w g N) : Wr (put4 w g i0 i1 i2 i3 x) g N := fun j hj => by simp [put4, h j hj]
theorem Wr.below {w w' : World} {g N : Nat} (h : Wr w g N) (hg : g < w.heap.size) (hb : Below w.heap.size w w') : Wr w' g N := fun j hj => (hb.frozen (p := ⟨g, j, none⟩) hg).trans (h j hj)

/-- A triple written at place o. -/
def put12 (w : World) (g o : Nat) (t u v : Tm) : World := put4 (put4 (put4 w g o (o + 1) (o + 2) (o + 3) t) g (o + 4) (o + 5) (o + 6) (o + 7) u) g (o + 8) (o + 9) (o + 10) (o + 11) v
theorem put4_at {w : World} {g o : Nat} {t : Tm} {N : Nat} (h : Ex w g N) (ho : o + 3 < N) :
    (put4 w g o (o + 1) (o + 2) (o + 3) t).cell? ⟨g, o, none⟩ = some (.int .i64 t.k) ∧ (put4 w g o (o + 1) (o + 2) (o + 3) t).cell? ⟨g, o + 1, none⟩ = some (.slice t.a t.len t.cap) ∧ (put4 w g o (o + 1) (o + 2) (o + 3) t).cell? ⟨g, o + 2, none⟩ = some (.int .i64 t.n) ∧ (put4 w g o (o + 1) (o + 2) (o + 3) t).cell? ⟨g, o + 3, none⟩ = some (.int .i64 t.s) := by
  unfold put4
  refine ⟨?_, ?_, ?_, ?_⟩
  · obtain ⟨u, hu⟩ := h o (by omega)
    rw [set_other (by omega), set_other (by omega), set_other (by omega)]
    exact set_same hu
  · obtain ⟨u, hu⟩ := h.set (i := o) (v := .int .i64 t.k) (o + 1) (by omega)
    rw [set_other (by omega), set_other (by omega)]
    exact set_same hu
  · obtain ⟨u, hu⟩ := (h.set (i := o) (v := .int .i64 t.k)).set (i := o + 1) (v := .slice t.a t.len t.cap) (o + 2) (by omega)
    rw [set_other (by omega)]
    exact set_same hu
  · obtain ⟨u, hu⟩ := ((h.set (i := o) (v := .int .i64 t.k)).set (i := o + 1) (v := .slice t.a t.len t.cap)).set (i := o + 2) (v := .int .i64 t.n) (o + 3) (by omega)
    exact set_same hu
theorem put4_off {w : World} {g o i0 i1 i2 i3 : Nat} {t : Tm} (h : o ≠ i0 ∧ o ≠ i1 ∧ o ≠ i2 ∧ o ≠ i3) : (put4 w g i0 i1 i2 i3 t).cell? ⟨g, o, none⟩ = w.cell? ⟨g, o, none⟩ := by
  unfold put4
  rw [set_other h.2.2.2, set_other h.2.2.1, set_other h.2.1, set_other h.1]
theorem Row12.put {w : World} {g o N : Nat} {t u v : Tm} (h : Ex w g N) (ho : o + 12 ≤ N) : Row12 (put12 w g o t u v) g o t u v := by
  unfold Row12 put12
  have h1 := h.put (i0 := o) (i1 := o + 1) (i2 := o + 2) (i3 := o + 3) (x := t)
  have h2 := h1.put (i0 := o + 4) (i1 := o + 5) (i2 := o + 6) (i3 := o + 7) (x := u)
  have a1 := put4_at (t := t) h (show o + 3 < N by omega)
  have a2 := put4_at (t := u) (o := o + 4) h1 (show o + 4 + 3 < N by omega)
  have a3 := put4_at (t := v) (o := o + 8) h2 (show o + 8 + 3 < N by omega)
  refine ⟨⟨?_, ?_, ?_, ?_⟩, ⟨?_, ?_, ?_, ?_⟩, ⟨?_, ?_, ?_, ?_⟩⟩
  · rw [put4_off (by omega), put4_off (by omega)]; exact a1.1
  · rw [put4_off (by omega), put4_off (by omega)]; exact a1.2.1
  · rw [put4_off (by omega), put4_off (by omega)]; exact a1.2.2.1
  · rw [put4_off (by omega), put4_off (by omega)]; exact a1.2.2.2
  · rw [put4_off (by omega)]; exact a2.1
  · rw [put4_off (by omega)]; exact a2.2.1
  · rw [put4_off (by omega)]; exact a2.2.2.1
  · rw [put4_off (by omega)]; exact a2.2.2.2
  · exact a3.1
  · exact a3.2.1
  · exact a3.2.2.1
  · exact a3.2.2.2
/-- A row of triples of the call's own, its texts too. -/
structure Copied (w : World) (g n : Nat) (T U V : Nat → Tm) (bt bu bv : Nat → List Int) (G1 G2 G3 : Nat → Nat) : Prop where
  row : ∀ i, i < n → Row12 w g (i * 12) ((T i).own (G1 i)) ((U i).own (G2 i)) ((V i).own (G3 i))
  t1 : ∀ i, i < n → OwnT w (G1 i) (T i).len (bt i)
  t2 : ∀ i, i < n → OwnT w (G2 i) (U i).len (bu i)
  t3 : ∀ i, i < n → OwnT w (G3 i) (V i).len (bv i)
  g1 : ∀ i, i < n → g < G1 i
  g2 : ∀ i, i < n → g < G2 i
  g3 : ∀ i, i < n → g < G3 i
  wr : Wr w g (n * 12)
theorem Copied.b1 {w : World} {g n : Nat} {T U V : Nat → Tm} {bt bu bv : Nat → List Int} {G1 G2 G3 : Nat → Nat} (h : Copied w g n T U V bt bu bv G1 G2 G3) : ∀ i, i < n → Bs w (some ⟨G1 i, 0, none⟩) (T i).len (bt i) := fun i hi => (h.t1 i hi).1
theorem Copied.b2 {w : World} {g n : Nat} {T U V : Nat → Tm} {bt bu bv : Nat → List Int} {G1 G2 G3 : Nat → Nat} (h : Copied w g n T U V bt bu bv G1 G2 G3) : ∀ i, i < n → Bs w (some ⟨G2 i, 0, none⟩) (U i).len (bu i) := fun i hi => (h.t2 i hi).1
theorem Copied.b3 {w : World} {g n : Nat} {T U V : Nat → Tm} {bt bu bv : Nat → List Int} {G1 G2 G3 : Nat → Nat} (h : Copied w g n T U V bt bu bv G1 G2 G3) : ∀ i, i < n → Bs w (some ⟨G3 i, 0, none⟩) (V i).len (bv i) := fun i hi => (h.t3 i hi).1
theorem Copied.below {w w' : World} {g n : Nat} {T U V : Nat → Tm} {bt bu bv : Nat → List Int} {G1 G2 G3 : Nat → Nat} (h : Copied w g n T U V bt bu bv G1 G2 G3) (hg : g < w.heap.size) (hb : Below w.heap.size w w') : Copied w' g n T U V bt bu bv G1 G2 G3 :=
  ⟨fun i hi => (h.row i hi).of_block (hb.block g hg), fun i hi => (h.t1 i hi).below hb, fun i hi => (h.t2 i hi).below hb, fun i hi => (h.t3 i hi).below hb, h.g1, h.g2, h.g3, h.wr.below hg hb⟩
end Go.Proofs.YtganfiajhokkmaaGreatDoor

/- GraE -/
namespace Go.Proofs.YtganfiajhokkmaaGreatDoor
open Go.RowKit Go.Deep

theorem Copied.set {w : World} {g n c i : Nat} {x : Value} {T U V : Nat → Tm} {bt bu bv : Nat → List Int} {G1 G2 G3 : Nat → Nat} (h : Copied w g n T U V bt bu bv G1 G2 G3) (hc : c < g) : Copied (w.setCell ⟨c, i, none⟩ x) g n T U V bt bu bv G1 G2 G3 := by
  have hB : But c w (w.setCell ⟨c, i, none⟩ x) := (But.refl c w).set i x
  exact ⟨fun j hj => (h.row j hj).of_block (hB.block g (by omega)), fun j hj => (h.t1 j hj).but hB (by have := h.g1 j hj; omega), fun j hj => (h.t2 j hj).but hB (by have := h.g2 j hj; omega), fun j hj => (h.t3 j hj).but hB (by have := h.g3 j hj; omega), h.g1, h.g2, h.g3, fun j hj => by rw [hB.frozen (p := ⟨g, j, none⟩) (by show g ≠ c; omega)]; exact h.wr j hj⟩
end Go.Proofs.YtganfiajhokkmaaGreatDoor

/- TreL -/
namespace Go.Proofs.YtganfiajhokkmaaGreatDoor
open Go.RowKit Go.Deep
set_option maxRecDepth 100000

theorem VL.ne {w0 w : World} {B : Nat} {v : Value} {L : List SL} (h : VL w0 w B v L) : v.ownBlock ≠ some w.heap.size := fun e => by have := (h.lo _ e).2; omega
theorem Kp.ne {v v' : Value} {w W wr : World} {o : Obj} (h : Kp v W v' wr) (hW : W = w.alloc o) (hv : v.ownBlock ≠ some w.heap.size) : v'.ownBlock ≠ some w.heap.size := fun e => by
  rcases h.blk _ e with e' | e'
  · exact hv e'
  · rw [hW] at e'
    have : (w.alloc o).heap.size = w.heap.size + 1 := by simp
    omega
end Go.Proofs.YtganfiajhokkmaaGreatDoor

/- TreM -/
namespace Go.Proofs.YtganfiajhokkmaaGreatDoor
open Go.RowKit Go.Deep
set_option maxRecDepth 100000

/-- A list that is being made: what is known of it within a function whose argument lies in a box. -/
structure LS (w0 w W : World) (B : Nat) (v0 v : Value) (L : List SL) (cs : List Value) (W' : World) : Prop where
  vl : VL w0 W' B v L
  kp : Kp v0 W v W'
  bx : Box W' w.heap.size cs
  bl : Below w0.heap.size w0 W'
  lo : B ≤ W'.heap.size
  ne : v.ownBlock ≠ some w.heap.size
theorem LS.below {w0 w W : World} {B : Nat} {v0 v : Value} {L : List SL} {cs : List Value} {W' W'' : World} (h : LS w0 w W B v0 v L cs W') (hb : Below W'.heap.size W' W'') : LS w0 w W B v0 v L cs W'' :=
  ⟨h.vl.below hb, h.kp.trans (Kp.of_below hb), h.bx.below hb, h.bl.trans (hb.mono h.bl.size), Nat.le_trans h.lo hb.size, h.ne⟩
end Go.Proofs.YtganfiajhokkmaaGreatDoor

/- TreO -/
namespace Go.Proofs.YtganfiajhokkmaaGreatDoor
open Go.RowKit Go.Deep
set_option maxRecDepth 100000

theorem isZeroT_any (x : TB) (w : World) (h : BsF 0 w x.sl) :
    Calls Tryz.prog 76 #[.agg #[.int .i64 x.t.k, .slice x.t.a x.t.len x.t.cap, .int .i64 x.t.n, .int .i64 x.t.s]] w (Tells (zeroT x.td) w) := by
  have HL : Hid (x.b = [] ↔ x.t.len = 0) := nil_len h.1.1
  clear h
  by_cases h0 : x.t.k = 0
  rotate_left
  · go_enter Tryz.func76, Tryz.ntmps76
    go_wp2
    go_ret
    exact Tells.no (P := zeroT x.td) (fun hp => h0 hp.1) (bl_a _)
  by_cases h1 : x.t.len = 0
  rotate_left
  · go_enter Tryz.func76, Tryz.ntmps76
    go_wp2
    go_ret
    exact Tells.no (P := zeroT x.td) (fun hp => h1 (HL.out.1 hp.2.1)) (bl_a _)
  by_cases h2 : x.t.n = 0
  rotate_left
  · go_enter Tryz.func76, Tryz.ntmps76
    go_wp2
    go_ret
    exact Tells.no (P := zeroT x.td) (fun hp => h2 hp.2.2.1) (bl_a _)
  by_cases h3 : x.t.s = 0
  rotate_left
  · have h3' : (x.t.s == 0) = false := by simp [h3]
    go_enter Tryz.func76, Tryz.ntmps76
    go_wp2
    go_ret
    exact Tells.no (P := zeroT x.td) (fun hp => h3 hp.2.2.2) (bl_a _)
  · have HP : Hid (zeroT x.td) := ⟨h0, HL.out.2 h1, h2, h3⟩
    go_enter Tryz.func76, Tryz.ntmps76
    go_wp2
    go_ret
    exact Tells.yes HP.out (bl_a _)
end Go.Proofs.YtganfiajhokkmaaGreatDoor

/- TreP -/
namespace Go.Proofs.YtganfiajhokkmaaGreatDoor
open Go.RowKit Go.Deep
set_option maxRecDepth 100000

def BareN (d : EN) : Prop := d.op = 0 ∧ d.v.b = [] ∧ zeroT d.t.td

theorem BareN.mk {d : EN} (h1 : d.op = 0) (h2 : d.v.b = []) (h3 : zeroT d.t.td) : BareN d := And.intro h1 (And.intro h2 h3)

theorem wpl_at {P : Program} {ops : Array Oper} {rest : List Oper} {op : Oper} {a : Act} {w : World} {Q : Exit → Act → World → Prop} (h : wpList P ops Q (op :: rest) a w) : wpList P ops Q (op :: rest) a w := h

end Go.Proofs.YtganfiajhokkmaaGreatDoor

/- TreT -/
namespace Go.Proofs.YtganfiajhokkmaaGreatDoor
open Go.RowKit Go.Deep
set_option maxRecDepth 100000

/-- What IndexFunc answers: -1 exactly if P. -/
def IdxAns (P : Prop) (w : World) (e : Ending) (w' : World) : Prop := ∃ v : Int, e = .returned (.int .i64 v) ∧ (0 ≤ v ↔ ¬ P) ∧ Below w.heap.size w w'
theorem IdxAns.of {P : Prop} {v : Int} {w w' : World} (h : 0 ≤ v ↔ ¬ P) (hb : Below w.heap.size w w') : IdxAns P w (.returned (.int .i64 v)) w' := ⟨v, rfl, h, hb⟩
end Go.Proofs.YtganfiajhokkmaaGreatDoor

/- TreU -/
namespace Go.Proofs.YtganfiajhokkmaaGreatDoor
open Go.RowKit Go.Deep
set_option maxRecDepth 100000

/-- An operation that has nothing but its kind and its Kids. -/
def BareA (d : AN) : Prop := d.pn = 0 ∧ zeroE d.e ∧ d.v.b = [] ∧ d.tb = []
theorem BareA.mk {d : AN} (h1 : d.pn = 0) (h2 : zeroE d.e) (h3 : d.v.b = []) (h4 : d.tb = []) : BareA d := And.intro h1 (And.intro h2 (And.intro h3 h4))
end Go.Proofs.YtganfiajhokkmaaGreatDoor

/- TreZ -/
namespace Go.Proofs.YtganfiajhokkmaaGreatDoor
open Go.RowKit Go.Deep
set_option maxRecDepth 100000

theorem bytesEqual_any (x y : SL) (w : World) (hx : BsF 0 w x) (hy : BsF 0 w y) : Calls Tryz.prog 60 #[.slice x.a x.len x.cap, .slice y.a y.len y.cap] w (Tells (x.b = y.b) w) := by
  have c1 : (convert 27 9 (.slice x.a x.len x.cap)).run Tryz.prog w = .ok (.string (strOfNums x.b)) w := hx.1.str
  have c2 : (convert 27 9 (.slice y.a y.len y.cap)).run Tryz.prog w = .ok (.string (strOfNums y.b)) w := hy.1.str
  by_cases h : x.b = y.b
  · have HY : Hid (x.b = y.b) := h
    rw [h] at c1
    clear h hx hy
    go_enter Tryz.func60, Tryz.ntmps60
    go_wp2_with fail
    go_ret
    exact Tells.yes HY.out (Below.refl _ _)
  · have HNO : Hid (¬ x.b = y.b) := h
    have hs := str_ne hx.1.byt hy.1.byt h
    have hs0 := str_ne2 hx.1.byt hy.1.byt h
    have hs1 : ((strOfNums x.b).toList == (strOfNums y.b).toList) = false := beq_false_of_ne hs0
    have hs2 : decide (strOfNums x.b = strOfNums y.b) = false := decide_eq_false hs
    clear h hx hy
    go_enter Tryz.func60, Tryz.ntmps60
    go_wp2_with fail
    go_ret
    exact Tells.no HNO.out (Below.refl _ _)
theorem hasC_any (x y : SL) (c : Nat) (w : World) (hx : BsF 0 w x) (hy : BsF 0 w y) (hc : w.cell? ⟨c, 0, none⟩ = some (.slice x.a x.len x.cap)) : Calls Tryz.prog 59 #[.slice y.a y.len y.cap, .pointer (some ⟨c, 0, none⟩)] w (Tells (y.b = x.b) w) := by
  have BE := bytesEqual_any y x w hy hx
  clear hx hy
  obtain ⟨P, hP⟩ : ∃ P : Prop, P = (y.b = x.b) := ⟨_, rfl⟩
  rw [← hP] at BE ⊢
  clear hP
  go_enter Tryz.func59, Tryz.ntmps59
  go_wp2_with fail
  refine BE.mono ?_
  rintro e w1 ⟨q, rfl, hq, hb⟩
  have HQ : Hid (q = true ↔ P) := hq
  have HB : Hid (Below w.heap.size w w1) := hb
  clear hq hb BE hc
  go_wp2_with fail
  go_ret
  exact Tells.of HQ.out HB.out
set_option maxHeartbeats 2000000 in
theorem indexV_any (v : Value) (L : List SL) (x : SL) (c B : Nat) (w0 w : World) (h : VL w0 w B v L) (hw : Below w0.heap.size w0 w) (hx : BsF 0 w0 x) (hn : L.length ≤ 1048576) (hcl : c < w.heap.size) (hc : w.cell? ⟨c, 0, none⟩ = some (.slice x.a x.len x.cap)) :
    Calls Tryz.prog 74 #[v, .func (.func 59) #[] #[.pointer (some ⟨c, 0, none⟩)]] w (IdxAns (¬ InL x.b L) w) := by
  obtain ⟨a, cap, rfl, hf⟩ := h.form
  obtain ⟨n, hnn⟩ : ∃ n, n = L.length := ⟨_, rfl⟩
  have HN : Hid (n = L.length) := hnn
  have HT : Hid (∀ y ∈ L, BsF 0 w0 y) := h.txt
  have HX : Hid (BsF 0 w0 x) := hx
  have HW : Hid (Below w0.heap.size w0 w) := hw
  have HCC : Hid (w.cell? ⟨c, 0, none⟩ = some (.slice x.a x.len x.cap)) := hc
  rw [← hnn] at hn ⊢
  by_cases hL : L = []
  · have HNI : Hid (¬ InL x.b L) := (show ¬ (x.b ∈ L.map SL.b) by rw [hL]; simp)
    have hn0 : n = 0 := by rw [hnn, hL]; rfl
    clear h hw hx hf hnn hL hc HN
    subst hn0
    go_enter Tryz.func74, Tryz.ntmps74
    go_wp2_with fail
    go_loopw [8] (fun i wr => i = .int .i64 0 ∧ Hid (Below w.heap.size w wr)) (fun _ _ => 0)
    case atStart => exact ⟨rfl, Below.refl _ _⟩
    case round =>
      obtain ⟨rfl, HB⟩ := hrel
      go_wp2_with fail
      go_ret
      exact IdxAns.of ⟨fun h => absurd h (by decide), fun h => absurd HNI.out h⟩ HB.out
  obtain ⟨g, rfl, _, hg, hcs⟩ := hf.resolve_left hL
  have HCS : Hid (∀ i x, L[i]? = some x → w.cell? ⟨g, i, none⟩ = some (.slice x.a x.len x.cap)) := hcs
  clear h hw hx hf hnn hL hc hcs
  go_enter Tryz.func74, Tryz.ntmps74
  go_wp2_with fail
  go_loopw [8] (fun i wr => ∃ k : Nat, k ≤ n ∧ i = .int .i64 k ∧ Hid (∀ j y, j < k → L[j]? = some y → y.b ≠ x.b) ∧ Hid (Below w.heap.size w wr)) (fun i _ => n - (intOf i).toNat)
  case atStart => exact ⟨0, Nat.zero_le _, rfl, fun j y hj => absurd hj (Nat.not_lt_zero _), Below.refl _ _⟩
  case round =>
    obtain ⟨k, hk, rfl, HNE, HB⟩ := hrel
    by_cases hlk : k < n
    rotate_left
    · obtain rfl : k = n := by omega
      have hlkz : ¬ (k : Int) < (k : Int) := by omega
      have HNI : Hid (¬ InL x.b L) := fun hm => by
        obtain ⟨y, hy, e⟩ := List.mem_map.1 hm
        obtain ⟨j, hj, rfl⟩ := List.getElem_of_mem hy
        exact HNE.out j _ (by rw [HN.out]; exact hj) (List.getElem?_eq_getElem hj) e
      go_wp2_with fail
      go_ret
      exact IdxAns.of ⟨fun h => absurd h (by decide), fun h => absurd HNI.out h⟩ HB.out
    have hlkz : (k : Int) < (n : Int) := by omega
    obtain ⟨y, hy⟩ : ∃ y, L[k]? = some y := ⟨_, List.getElem?_eq_getElem (by rw [← HN.out]; exact hlk)⟩
    have HY : Hid (L[k]? = some y) := hy
    have HTY : Hid (BsF 0 w0 y) := HT.out y (List.mem_of_getElem? hy)
    have y0 : wr.cell? ⟨g, k, none⟩ = some (.slice y.a y.len y.cap) := (HB.out.cell (p := ⟨g, k, none⟩) hg).trans (HCS.out k y hy)
    clear hy
    go_wp2_with fail
    refine (hasC_any x y c wr (HX.out.upper (Upper.of_below (bl_trans HW.out HB.out))) (HTY.out.upper (Upper.of_below (bl_trans HW.out HB.out))) ((HB.out.cell (p := ⟨c, 0, none⟩) hcl).trans HCC.out)).mono ?_
    rintro e w1 ⟨q1, rfl, hq1, hb1⟩
    have HB1 : Hid (Below w.heap.size w w1) := bl_trans HB.out hb1
    clear hb1 HB y0
    cases q1 with
    | true =>
      have HIN : Hid (InL x.b L) := (show x.b ∈ L.map SL.b by rw [← hq1.1 rfl]; exact List.mem_map_of_mem (f := SL.b) (List.mem_of_getElem? HY.out))
      clear hq1
      go_wp2_with fail
      go_ret
      exact IdxAns.of ⟨fun _ h => h HIN.out, fun _ => by omega⟩ HB1.out
    | false =>
      have HYX : Hid (y.b ≠ x.b) := fun hh => by have h := hq1.2 hh; cases h
      clear hq1
      go_wp2_with fail
      go_roundw
      case rel =>
        refine ⟨k + 1, by omega, by go_num, fun j z hj hz => ?_, HB1⟩
        by_cases e : j = k
        · subst e
          rw [HY.out] at hz
          cases hz
          exact HYX.out
        · exact HNE.out j z (by omega) hz
      case measure => simp [intOf]; omega
theorem containsV_any (v : Value) (L : List SL) (x : SL) (c B : Nat) (w0 w : World) (h : VL w0 w B v L) (hw : Below w0.heap.size w0 w) (hx : BsF 0 w0 x) (hn : L.length ≤ 1048576) (hcl : c < w.heap.size) (hc : w.cell? ⟨c, 0, none⟩ = some (.slice x.a x.len x.cap)) :
    Calls Tryz.prog 58 #[v, .func (.func 59) #[] #[.pointer (some ⟨c, 0, none⟩)]] w (Tells (InL x.b L) w) := by
  have IX := indexV_any v L x c B w0 w h hw hx hn hcl hc
  obtain ⟨P, hP⟩ : ∃ P : Prop, P = InL x.b L := ⟨_, rfl⟩
  rw [← hP] at IX ⊢
  obtain ⟨a, cap, rfl, _⟩ := h.form
  clear hP h hw hx hn hcl hc
  go_enter Tryz.func58, Tryz.ntmps58
  go_wp2_with fail
  refine IX.mono ?_
  rintro e w1 ⟨v, rfl, hv, hb⟩
  have HV : Hid (0 ≤ v ↔ ¬ ¬ P) := hv
  have HB : Hid (Below w.heap.size w w1) := hb
  clear IX hv hb
  go_wp2_with fail
  go_ret
  refine Tells.of ?_ HB.out
  rw [← Classical.not_not (a := P), ← HV.out]
  simp
theorem has_any (v : Value) (L : List SL) (x : SL) (B : Nat) (w0 w : World) (h : VL w0 w B v L) (hw : Below w0.heap.size w0 w) (hx : BsF 0 w0 x) (hn : L.length ≤ 1048576) :
    Calls Tryz.prog 42 #[v, .slice x.a x.len x.cap] w (Tells (InL x.b L) w) := by
  have hsz : w0.heap.size ≤ w.heap.size := hw.size
  have HC : Hid (∀ o, (w.alloc o).cell? ⟨w.heap.size, 0, none⟩ = some (.slice x.a x.len x.cap) → Calls Tryz.prog 58 #[v, .func (.func 59) #[] #[.pointer (some ⟨w.heap.size, 0, none⟩)]] (w.alloc o) (Tells (InL x.b L) (w.alloc o))) := fun o ho => containsV_any v L x w.heap.size B w0 (w.alloc o) (h.below (bl_a o)) (hw.trans ((bl_a o).mono hsz)) hx hn (by simp) ho
  obtain ⟨P, hP⟩ : ∃ P : Prop, P = InL x.b L := ⟨_, rfl⟩
  rw [← hP] at HC ⊢
  obtain ⟨a, cap, rfl, _⟩ := h.form
  clear hP h hw hx hn
  go_enter Tryz.func42, Tryz.ntmps42
  go_wp2_with fail
  refine (HC.out _ (by simp [go_sem])).mono ?_
  rintro e w1 ⟨q, rfl, hq, hb⟩
  have HQ : Hid (q = true ↔ P) := hq
  have HB : Hid (Below w.heap.size w w1) := bl_trans (bl_a _) hb
  clear HC hq hb
  go_wp2_with fail
  go_ret
  exact Tells.of HQ.out HB.out
end Go.Proofs.YtganfiajhokkmaaGreatDoor
