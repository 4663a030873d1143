/- Graphs as texts: what they are; rows of bytes that grow, none at first; append of a constant text. -/
import Derived.Test.YtmpiadlmkeimdaaDoorShwJ
import Derived.Test.YtmpiadlmkeimdaaDoorGraG
import Derived.Lib.AppendStr
namespace Go.Proofs.YtmpiadlmkeimdaaDoor
open Go.RowKit Go.Deep
set_option maxRecDepth 100000

/-- What a term shows as, by its parts. -/
def Tm.show (t : Tm) (b : List Int) : List Int := showL t.k t.n t.s b
/-- A triple's line. -/
def lineL (t u v : Tm) (bt bu bv : List Int) : List Int := t.show bt ++ 32 :: (u.show bu ++ 32 :: (v.show bv ++ [32, 46, 10]))
/-- The lines of the first i triples. -/
def linesL (T U V : Nat → Tm) (bt bu bv : Nat → List Int) : Nat → List Int
  | 0 => []
  | i + 1 => linesL T U V bt bu bv i ++ lineL (T i) (U i) (V i) (bt i) (bu i) (bv i)
/-- What GraphText tells. -/
def textL (n : Nat) (T U V : Nat → Tm) (bt bu bv : Nat → List Int) : List Int := if graphOk n T U V bt bu bv = true then linesL T U V bt bu bv n else []

theorem Tm.show_len {t : Tm} {b : List Int} (h : termOk t.k b t.n t.s = true) : 1 ≤ (t.show b).length ∧ (t.show b).length ≤ 64 := showL_len h
theorem stepOk_terms {T U V : Nat → Tm} {bt bu bv : Nat → List Int} {i : Nat} (h : stepOk T U V bt bu bv i = true) : termOk (T i).k (bt i) (T i).n (T i).s = true ∧ termOk (U i).k (bu i) (U i).n (U i).s = true ∧ termOk (V i).k (bv i) (V i).n (V i).s = true :=
  tripleOk_out (stepOk_first h)
theorem lineL_len {t u v : Tm} {bt bu bv : List Int} (h1 : termOk t.k bt t.n t.s = true) (h2 : termOk u.k bu u.n u.s = true) (h3 : termOk v.k bv v.n v.s = true) : (lineL t u v bt bu bv).length ≤ 200 := by
  have a1 := Tm.show_len h1
  have a2 := Tm.show_len h2
  have a3 := Tm.show_len h3
  unfold lineL
  simp
  omega
theorem linesL_len {T U V : Nat → Tm} {bt bu bv : Nat → List Int} (i : Nat) (h : ∀ j, j < i → stepOk T U V bt bu bv j = true) : (linesL T U V bt bu bv i).length ≤ i * 200 := by
  induction i with
  | zero => simp [linesL]
  | succ i ih =>
    have h1 := ih (fun j hj => h j (by omega))
    obtain ⟨a1, a2, a3⟩ := stepOk_terms (h i (by omega))
    have h2 := lineL_len a1 a2 a3
    simp only [linesL, List.length_append]
    omega
theorem graphOk_out {n : Nat} {T U V : Nat → Tm} {bt bu bv : Nat → List Int} (h : graphOk n T U V bt bu bv = true) : n ≤ 60 ∧ ∀ i, i < n → stepOk T U V bt bu bv i = true := by
  simp [graphOk] at h
  exact h
theorem textL_len (n : Nat) (T U V : Nat → Tm) (bt bu bv : Nat → List Int) : (textL n T U V bt bu bv).length ≤ 12000 := by
  unfold textL
  split
  · rename_i h
    have := graphOk_out h
    have := linesL_len n this.2
    omega
  · simp
theorem linesL_byt {T U V : Nat → Tm} {bt bu bv : Nat → List Int} (n : Nat) (h1 : ∀ i, i < n → Byt (bt i)) (h2 : ∀ i, i < n → Byt (bu i)) (h3 : ∀ i, i < n → Byt (bv i)) : Byt (linesL T U V bt bu bv n) := by
  induction n with
  | zero => exact Byt.nil
  | succ n ih =>
    refine (ih (fun i hi => h1 i (by omega)) (fun i hi => h2 i (by omega)) (fun i hi => h3 i (by omega))).app ?_
    refine (showL_byt (h1 n (by omega))).app (Byt.cons (by omega) ?_)
    refine (showL_byt (h2 n (by omega))).app (Byt.cons (by omega) ?_)
    exact (showL_byt (h3 n (by omega))).app (Byt.cons (by omega) (Byt.cons (by omega) (Byt.cons (by omega) Byt.nil)))

/-- A row of bytes of the call's own, or none as yet. -/
def Own8 (w : World) (B : Nat) (v : Value) (n : Nat) (bs : List Int) : Prop := w.ownsRow B 5 1 v n (bs.map (Value.int .u8)) ∧ ∀ g, v.ownBlock = some g → B ≤ g ∧ g < w.heap.size
theorem Own8.nil (w : World) (B : Nat) : Own8 w B (.slice none 0 0) 0 [] := ⟨World.ownsRow_nil _ _ _ _, fun g h => by cases h⟩
theorem Own8.below {w w' : World} {B n : Nat} {v : Value} {bs : List Int} (h : Own8 w B v n bs) (hb : Below w.heap.size w w') : Own8 w' B v n bs := by
  obtain ⟨⟨h1, h2⟩, hl⟩ := h
  refine ⟨⟨h1, ?_⟩, fun g hg => ⟨(hl g hg).1, Nat.lt_of_lt_of_le (hl g hg).2 hb.size⟩⟩
  rcases h2 with h2 | ⟨g', cap', cur, hv, hB, hh, r⟩
  · exact .inl h2
  · refine .inr ⟨g', cap', cur, hv, hB, ?_, r⟩
    have := (hl g' (by rw [hv]; rfl)).2
    rw [hb.block g' this]
    exact hh
theorem Row8.own8 {w : World} {B g n cap : Nat} {bs : List Int} (h : Row8 w B g n cap bs) : Own8 w B (.slice (some ⟨g, 0, none⟩) n cap) n bs := by
  refine ⟨h.1, fun g' hg => ?_⟩
  have : g = g' := by simpa [Value.ownBlock] using hg
  subst this
  exact ⟨h.ge, h.2⟩
theorem Own8.len {w : World} {B n : Nat} {v : Value} {bs : List Int} (h : Own8 w B v n bs) : bs.length = n := by simpa using h.1.1
/-- A row that is told. -/
theorem Own8.nw {w : World} {B n : Nat} {v : Value} {bs : List Int} (h : Own8 w B v n bs) (hb : Byt bs) (hl : n ≤ 1048576) : ∃ a cap, v = .slice a n cap ∧ Nw w B a n bs := by
  rcases h.1.2 with ⟨hv, h0⟩ | ⟨g, cap, cur, hv, hB, hh⟩
  · subst h0
    have hz := h.len
    exact ⟨none, 0, hv, .inl ⟨rfl, rfl, List.eq_nil_of_length_eq_zero hz⟩⟩
  · subst hv
    have hr : Row8 w B g n cap bs := ⟨h.1, (h.2 g rfl).2⟩
    exact ⟨_, cap, rfl, hr.nw hb hl⟩

/-- append of a constant text's bytes. -/
theorem app8s {ops : Array Oper} {rest : List Oper} {o : Oper} {a : Act} {Q : Exit → Act → World → Prop} {w : World} (hgd : o.guard = none) (s x : Operand)
    (ho : o.op = .call { callee := .builtin .append, args := #[s, x], argTypes := #[22, 9] })
    (B : Nat) (v : Value) (n : Nat) (us : List Int) (hs : a.eval s = v) (HO : Hid (Own8 w B v n us))
    (st : ByteArray) (hx : a.eval x = .string st) (hm : 0 < st.size) (N : Nat) (hN : n + st.size = N) (zs : List Int) (hz : us ++ numsOf st = zs) (hle : N ≤ 1000000000) (hB : B ≤ w.heap.size)
    (h : ∀ g cap w', Hid (Row8 w' B g N cap zs) → Hid (Below B w w') → wpList Tryd.prog ops Q rest (a.put o.dst (.slice (some ⟨g, 0, none⟩) N cap)) w') :
    wpList Tryd.prog ops Q (o :: rest) a w := by
  obtain ⟨i0, hi0, hzz⟩ := Option.map_eq_some_iff.1 Tryd.info5
  simp only [Prod.mk.injEq] at hzz
  obtain ⟨hi2, hi1, hi3⟩ := hzz
  subst hN hz
  refine Lib.wpList_append_own_string _ hgd s x 22 9 ho B 5 i0 Tryd.underlying22 Tryd.underlying9 hi0 hi2 hi1 hi3 v n (us.map (Value.int .u8)) hs HO.out.1 st hx (by unfold maxLen; omega) (by omega) hB ?_
  intro v' w' hown hgr _
  obtain ⟨g, cap, rfl, hBg, hlt⟩ := hown.form (by omega)
  have es : Lib.strCells st = (numsOf st).map (Value.int .u8) := by simp [Lib.strCells, numsOf]
  rw [es] at hown
  refine h g cap w' (Row8.grown hown rfl hlt) ?_
  rcases HO.out.1.2 with ⟨hv, _⟩ | ⟨g0, c0, cur, hv, hb, _⟩
  · subst hv
    exact below_nil hgr hB
  · subst hv
    exact grown_below (g := g0) hgr hb hB
end Go.Proofs.YtmpiadlmkeimdaaDoor
