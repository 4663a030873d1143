/- Texts put together: StrC StwA StwB StrD CmpE -/
import Derived.Test.YtobnpfcgcoooeaaGreatDoorMk05
import Derived.Test.YtobnpfcgcoooeaaGreatDoorMk03
import Derived.Deep.AppendLies
import Derived.Lib.QuietBelow
import Derived.Deep.Cut
import Derived.Test.YtobnpfcgcoooeaaGreatDoorMk04
/- StrC -/
namespace Go.Proofs.YtobnpfcgcoooeaaGreatDoor
open Go.RowKit Go.Deep
set_option maxRecDepth 100000

/-- A term's parts and what its text holds. -/
structure TB where
  t : Tm
  b : List Int
def TB.td (x : TB) : TD := ⟨x.t.k, x.b, x.t.n, x.t.s⟩
def enc4 (t : Tm) : List Value := [.int .i64 t.k, .slice t.a t.len t.cap, .int .i64 t.n, .int .i64 t.s]
/-- The cells of a row of terms. -/
def flat4 (l : List TB) : List Value := l.flatMap fun x => enc4 x.t
theorem flat4_len (l : List TB) : (flat4 l).length = l.length * 4 := by
  induction l with
  | nil => rfl
  | cons x l ih => simp only [flat4, List.flatMap_cons, List.length_append] at *; rw [ih]; simp [enc4]; omega
theorem flat4_append (l m : List TB) : flat4 (l ++ m) = flat4 l ++ flat4 m := by simp [flat4]
theorem flat4_get (l : List TB) (i c : Nat) (hi : i < l.length) (hc : c < 4) : (flat4 l)[i * 4 + c]? = (enc4 l[i].t)[c]? := by
  induction l generalizing i with
  | nil => cases hi
  | cons x l ih =>
    have e : flat4 (x :: l) = enc4 x.t ++ flat4 l := rfl
    rw [e]
    cases i with
    | zero => rw [List.getElem?_append_left (by simp [enc4]; omega)]; simp
    | succ i =>
      rw [List.getElem?_append_right (by simp [enc4]; omega)]
      have : (i + 1) * 4 + c - (enc4 x.t).length = i * 4 + c := by simp [enc4]; omega
      rw [this, ih i (by simpa using hi)]
      rfl
theorem flat4_one (l : List TB) : ∀ u ∈ flat4 l, u.oneCell' = true := by
  intro u hu
  obtain ⟨x, _, hx⟩ := List.mem_flatMap.1 hu
  simp [enc4] at hx
  rcases hx with rfl | rfl | rfl | rfl <;> rfl
theorem flat4_take (l : List TB) (i : Nat) : flat4 (l.take i) = (flat4 l).take (i * 4) := by
  induction l generalizing i with
  | nil => simp [flat4]
  | cons x l ih =>
    cases i with
    | zero => simp [flat4]
    | succ i =>
      have e : flat4 (x :: l) = enc4 x.t ++ flat4 l := rfl
      have e2 : flat4 (x :: l.take i) = enc4 x.t ++ flat4 (l.take i) := rfl
      rw [List.take_succ_cons, e, e2, ih, show (i + 1) * 4 = (enc4 x.t).length + i * 4 by simp [enc4]; omega, List.take_length_add_append]
theorem flat4_drop (l : List TB) (i : Nat) : flat4 (l.drop i) = (flat4 l).drop (i * 4) := by
  induction l generalizing i with
  | nil => simp [flat4]
  | cons x l ih =>
    cases i with
    | zero => simp
    | succ i =>
      have e : flat4 (x :: l) = enc4 x.t ++ flat4 l := rfl
      rw [List.drop_succ_cons, e, ih, show (i + 1) * 4 = (enc4 x.t).length + i * 4 by simp [enc4]; omega, List.drop_length_add_append]

/-- Terms behind an address. -/
def TRow (w : World) (a : Option Addr) (l : List TB) : Prop := l = [] ∨ ∃ b off, a = some ⟨b, off, none⟩ ∧ b < w.heap.size ∧ ∀ j u, (flat4 l)[j]? = some u → w.cell? ⟨b, off + j, none⟩ = some u
theorem TRow.below {w w' : World} {a : Option Addr} {l : List TB} (h : TRow w a l) (hb : Below w.heap.size w w') : TRow w' a l := by
  rcases h with h | ⟨b, off, ha, hl, hc⟩
  · exact .inl h
  · exact .inr ⟨b, off, ha, Nat.lt_of_lt_of_le hl hb.size, fun j u hu => (hb.cell (p := ⟨b, off + j, none⟩) hl).trans (hc j u hu)⟩
theorem TRow.at {w : World} {b off : Nat} {l : List TB} (hc : ∀ j u, (flat4 l)[j]? = some u → w.cell? ⟨b, off + j, none⟩ = some u) (i : Nat) (hi : i < l.length) :
    w.cell? ⟨b, off + i * 4, none⟩ = some (.int .i64 l[i].t.k) ∧ w.cell? ⟨b, off + i * 4 + 1, none⟩ = some (.slice l[i].t.a l[i].t.len l[i].t.cap) ∧ w.cell? ⟨b, off + i * 4 + 2, none⟩ = some (.int .i64 l[i].t.n) ∧ w.cell? ⟨b, off + i * 4 + 3, none⟩ = some (.int .i64 l[i].t.s) := by
  refine ⟨hc (i * 4 + 0) _ ?_, ?_, ?_, ?_⟩
  · rw [flat4_get l i 0 hi (by omega)]; rfl
  · rw [Nat.add_assoc]; exact hc _ _ (by rw [flat4_get l i 1 hi (by omega)]; rfl)
  · rw [Nat.add_assoc]; exact hc _ _ (by rw [flat4_get l i 2 hi (by omega)]; rfl)
  · rw [Nat.add_assoc]; exact hc _ _ (by rw [flat4_get l i 3 hi (by omega)]; rfl)
/-- Their texts. -/
def TTxt (w : World) (l : List TB) : Prop := ∀ x ∈ l, Bs w x.t.a x.t.len x.b
theorem TTxt.below {w w' : World} {l : List TB} (h : TTxt w l) (hb : Below w.heap.size w w') : TTxt w' l := fun x hx => (h x hx).below hb

/-- A row of terms of the call's own, or none as yet. -/
def OwnTR (w : World) (B : Nat) (v : Value) (l : List TB) : Prop := w.ownsRow B 37 4 v l.length (flat4 l) ∧ ∀ g, v.ownBlock = some g → B ≤ g ∧ g < w.heap.size
theorem OwnTR.nil (w : World) (B : Nat) : OwnTR w B (.slice none 0 0) [] := ⟨World.ownsRow_nil _ _ _ _, fun g h => by cases h⟩
theorem OwnTR.below {w w' : World} {B : Nat} {v : Value} {l : List TB} (h : OwnTR w B v l) (hb : Below w.heap.size w w') : OwnTR w' B v l := by
  obtain ⟨⟨h1, h2⟩, hl⟩ := h
  refine ⟨⟨h1, ?_⟩, fun g hg => ⟨(hl g hg).1, Nat.lt_of_lt_of_le (hl g hg).2 hb.size⟩⟩
  rcases h2 with h2 | ⟨g', cap', cur, hv, hB, hh, r⟩
  · exact .inl h2
  · refine .inr ⟨g', cap', cur, hv, hB, ?_, r⟩
    have := (hl g' (by rw [hv]; rfl)).2
    rw [hb.block g' this]
    exact hh
theorem OwnTR.form {w : World} {B : Nat} {v : Value} {l : List TB} (h : OwnTR w B v l) : ∃ a cap, v = .slice a l.length cap ∧ TRow w a l ∧ l.length ≤ cap ∧ (a = none → l = [] ∧ cap = 0) ∧ ∀ x, a = some x → ∃ g, x = ⟨g, 0, none⟩ ∧ B ≤ g ∧ g < w.heap.size := by
  rcases h.1.2 with ⟨rfl, h0⟩ | ⟨g, cap, cur, rfl, hB, hh, hle, _, hsz, htk⟩
  · have := List.eq_nil_of_length_eq_zero h0
    subst this
    exact ⟨none, 0, rfl, .inl rfl, by simp, fun _ => ⟨rfl, rfl⟩, fun x hx => by cases hx⟩
  · have hlt := (h.2 g rfl).2
    refine ⟨some ⟨g, 0, none⟩, cap, rfl, .inr ⟨g, 0, rfl, hlt, fun j u hu => ?_⟩, hle, fun hx => (by cases hx), fun x hx => by cases hx; exact ⟨g, rfl, hB, hlt⟩⟩
    rw [Nat.zero_add]
    have hj : j < l.length * 4 := by
      apply Classical.byContradiction
      intro hn
      rw [List.getElem?_eq_none (by rw [flat4_len]; omega)] at hu
      cases hu
    rw [← htk, List.getElem?_take, if_pos hj] at hu
    simp only [World.cell?, hh]
    simpa using hu

theorem Tryz.info37 : (Tryz.prog.info? 37).map (fun i => (i.zero, i.size, i.bytes)) = some (some (.agg #[.int .i64 0, .slice none 0 0, .int .i64 0, .int .i64 0]), 4, 48) := by kernel_rfl

/-- append of terms to a row of the call's own. -/
theorem appT {ops : Array Oper} {rest : List Oper} {o : Oper} {a : Act} {Q : Exit → Act → World → Prop} {w : World} (hgd : o.guard = none) (s x : Operand)
    (ho : o.op = .call { callee := .builtin .append, args := #[s, x], argTypes := #[27, 27] })
    (B : Nat) (v : Value) (us : List TB) (hs : a.eval s = v) (HO : Hid (OwnTR w B v us))
    (ad : Addr) (m c : Nat) (bs : List TB) (hx : a.eval x = .slice (some ad) m c) (hl : bs.length = m) (HN : Hid (∀ j u, (flat4 bs)[j]? = some u → w.cell? (ad.add j) = some u))
    (hm : 0 < m) (N : Nat) (hN : us.length + m = N) (zs : List TB) (hz : us ++ bs = zs) (hle : N ≤ 1000000000) (hB : B ≤ w.heap.size)
    (h : ∀ g cap w', Hid (OwnTR w' B (.slice (some ⟨g, 0, none⟩) N cap) zs) → Hid (w.grownBy w' v.ownBlock) → Hid (v.ownBlock = some g ∨ g = w.heap.size) → Hid (Below B w w') → wpList Tryz.prog ops Q rest (a.put o.dst (.slice (some ⟨g, 0, none⟩) N cap)) w') :
    wpList Tryz.prog ops Q (o :: rest) a w := by
  obtain ⟨i0, hi0, hzz⟩ := Option.map_eq_some_iff.1 Tryz.info37
  simp only [Prod.mk.injEq] at hzz
  obtain ⟨hi2, hi1, hi3⟩ := hzz
  subst hN hz
  refine wpList_append_lies _ hgd s x 27 ho B 37 i0 (.agg #[.int .i64 0, .slice none 0 0, .int .i64 0, .int .i64 0]) 4 48 Tryz.underlying27 hi0 hi2 hi1 hi3 rfl (by omega) v us.length (flat4 us) hs HO.out.1 ad m c (flat4 bs) hx (by rw [flat4_len, hl]) HN.out (flat4_one bs) hm (by unfold maxLen; omega) (by omega) hB _ rfl ?_
  intro g cap w' hown hgr hat hlt
  have hown' : w'.ownsRow B 37 4 (.slice (some ⟨g, 0, none⟩) (us.length + m) cap) (us ++ bs).length (flat4 (us ++ bs)) := by
    rw [flat4_append, List.length_append, hl]
    exact hown
  refine h g cap w' ⟨hown', fun g' hg' => ?_⟩ hgr hat ?_
  · have : g = g' := by simpa [Value.ownBlock] using hg'
    subst this
    rcases hown.2 with ⟨hv, _⟩ | ⟨g0, c0, cur, hv, hb, _⟩
    · cases hv
    · cases hv; exact ⟨hb, hlt⟩
  · rcases HO.out.1.2 with ⟨hv, _⟩ | ⟨g0, c0, cur, hv, hb, _⟩
    · subst hv
      exact ⟨hgr.os, hgr.tape, hgr.output, hgr.size, fun b hb => hgr.block b (by omega) (by simp [Value.ownBlock])⟩
    · subst hv
      exact ⟨hgr.os, hgr.tape, hgr.output, hgr.size, fun b hb' => hgr.block b (by omega) (by intro e; have : b = g0 := (by simpa [Value.ownBlock] using e); omega)⟩
/-- The cells of some of them. -/
theorem TRow.news {w : World} {b off : Nat} {l : List TB} (hc : ∀ j u, (flat4 l)[j]? = some u → w.cell? ⟨b, off + j, none⟩ = some u) (i m : Nat) :
    ∀ j u, (flat4 ((l.drop i).take m))[j]? = some u → w.cell? ((⟨b, off + i * 4, none⟩ : Addr).add j) = some u := by
  intro j u hu
  have ea : (⟨b, off + i * 4, none⟩ : Addr).add j = ⟨b, off + (i * 4 + j), none⟩ := by
    by_cases h0 : j = 0 <;> simp [Addr.add, h0, Nat.add_assoc]
  rw [ea]
  refine hc _ _ ?_
  rw [flat4_take, flat4_drop, List.getElem?_take] at hu
  split at hu
  · rw [List.getElem?_drop] at hu; exact hu
  · cases hu
end Go.Proofs.YtobnpfcgcoooeaaGreatDoor

/- StwA -/
namespace Go.Proofs.YtobnpfcgcoooeaaGreatDoor
open Go.RowKit Go.Deep
set_option maxRecDepth 100000

/-- A text that is marked from k on. -/
def MarkedW (w : World) (a : Option Addr) (len : Nat) (k : Int) : Prop := len = 0 ∨ ∃ g, a = some ⟨g, 0, none⟩ ∧ g < w.heap.size ∧ ∀ i, i < len → w.cell? ⟨g, i, none⟩ = some (.int .u8 ((k + (i : Nat)) % 256))
theorem MarkedW.below {w w' : World} {a : Option Addr} {len : Nat} {k : Int} (h : MarkedW w a len k) (hb : Below w.heap.size w w') : MarkedW w' a len k := by
  rcases h with h | ⟨g, ha, hl, hc⟩
  · exact .inl h
  · exact .inr ⟨g, ha, Nat.lt_of_lt_of_le hl hb.size, fun i hi => (hb.cell (p := ⟨g, i, none⟩) hl).trans (hc i hi)⟩
/-- All blocks that are not told are as they were. -/
structure Only (S : Nat → Prop) (w w' : World) : Prop where
  os : w'.os = w.os
  tape : w'.tape = w.tape
  output : w'.output = w.output
  size : w'.heap.size = w.heap.size
  block : ∀ b, ¬ S b → w'.heap[b]? = w.heap[b]?
theorem Only.refl (S : Nat → Prop) (w : World) : Only S w w := ⟨rfl, rfl, rfl, rfl, fun _ _ => rfl⟩
theorem Only.but {S : Nat → Prop} {g : Nat} {w w1 w2 : World} (h : Only S w w1) (k : But g w1 w2) (hg : S g) : Only S w w2 :=
  ⟨k.os.trans h.os, k.tape.trans h.tape, k.output.trans h.output, k.size.trans h.size, fun b hb => (k.block b (fun e => hb (e ▸ hg))).trans (h.block b hb)⟩
theorem Only.set {S : Nat → Prop} {g i : Nat} {w w1 : World} {v : Value} (h : Only S w w1) (hg : S g) : Only S w (w1.setCell ⟨g, i, none⟩ v) := h.but ((But.refl g w1).set i v) hg
theorem Only.trans {S : Nat → Prop} {w w1 w2 : World} (h : Only S w w1) (k : Only S w1 w2) : Only S w w2 :=
  ⟨k.os.trans h.os, k.tape.trans h.tape, k.output.trans h.output, k.size.trans h.size, fun b hb => (k.block b hb).trans (h.block b hb)⟩
theorem Only.imp {S S' : Nat → Prop} {w w1 : World} (h : Only S w w1) (k : ∀ b, S b → S' b) : Only S' w w1 := ⟨h.os, h.tape, h.output, h.size, fun b hb => h.block b (fun e => hb (k b e))⟩
theorem Only.below {S : Nat → Prop} {B : Nat} {w w' : World} (h : Only S w w') (hS : ∀ b, S b → B ≤ b) : Below B w w' :=
  ⟨h.os, h.tape, h.output, by rw [h.size]; exact Nat.le_refl _, fun b hb => h.block b (fun e => by have := hS b e; omega)⟩
theorem Only.cell {S : Nat → Prop} {w w' : World} (h : Only S w w') {p : Addr} (hp : ¬ S p.block) : w'.cell? p = w.cell? p := World.cell?_of_block (w := w) (h.block p.block hp)
theorem Only.frozen {S : Nat → Prop} {w w' : World} (h : Only S w w') {p : Addr} (hp : ¬ S p.block) : w'.frozen? p = w.frozen? p := World.frozen?_of_block (w := w) (h.block p.block hp)

/-- A text that may be marked. -/
def TxW (w : World) (a : Option Addr) (len : Nat) : Prop := len ≤ 1048576 ∧ (len = 0 ∨ ∃ g, a = some ⟨g, 0, none⟩ ∧ g < w.heap.size ∧ ∀ i, i < len → U8 w g i ∧ w.frozen? ⟨g, i, none⟩ = false)
/-- A list does not lie in that block. -/
def NoB (a : Option Addr) (len b : Nat) : Prop := len = 0 ∨ ∀ p, a = some p → p.block ≠ b
theorem NoB.ne {g len b : Nat} (h : NoB (some ⟨g, 0, none⟩) len b) (hl : 0 < len) : g ≠ b := by
  rcases h with h | h
  · omega
  · exact h _ rfl

theorem TxW.but {w w' : World} {a : Option Addr} {len c : Nat} (h : TxW w a len) (hb : But c w w') (hc : NoB a len c) : TxW w' a len := by
  refine ⟨h.1, ?_⟩
  rcases h.2 with h0 | ⟨g, rfl, hl, hx⟩
  · exact .inl h0
  · by_cases h0 : len = 0
    · exact .inl h0
    · have hne : g ≠ c := hc.ne (by omega)
      refine .inr ⟨g, rfl, by rw [hb.size]; exact hl, fun i hi => ?_⟩
      unfold U8
      rw [hb.cell (p := ⟨g, i, none⟩) hne, hb.frozen (p := ⟨g, i, none⟩) hne]
      exact hx i hi
theorem TxW.set {w : World} {a : Option Addr} {len g i : Nat} {v : Value} (h : TxW w a len) (hc : NoB a len g) : TxW (w.setCell ⟨g, i, none⟩ v) a len := h.but ((But.refl g w).set i v) hc
theorem MarkedW.but {w w' : World} {a : Option Addr} {len c : Nat} {k : Int} (h : MarkedW w a len k) (hb : But c w w') (hc : NoB a len c) : MarkedW w' a len k := by
  rcases h with h0 | ⟨g, rfl, hl, hx⟩
  · exact .inl h0
  · by_cases h0 : len = 0
    · exact .inl h0
    · have hne : g ≠ c := hc.ne (by omega)
      exact .inr ⟨g, rfl, by rw [hb.size]; exact hl, fun i hi => (hb.cell (p := ⟨g, i, none⟩) hne).trans (hx i hi)⟩

/-- A row of terms that may be marked. -/
structure MT (w : World) (g n : Nat) (X : Nat → Option Addr) (L Cp : Nat → Nat) : Prop where
  ex : Ex w g (n * 4)
  wr : Wr w g (n * 4)
  sl : ∀ i, i < n → w.cell? ⟨g, i * 4 + 1, none⟩ = some (.slice (X i) (L i) (Cp i))
  tx : ∀ i, i < n → TxW w (X i) (L i)
  off : ∀ i, i < n → NoB (X i) (L i) g
  dis : ∀ i j, i < n → j < n → i ≠ j → ∀ p, X j = some p → 0 < L j → NoB (X i) (L i) p.block
theorem MT.set {w : World} {g n i : Nat} {X : Nat → Option Addr} {L Cp : Nat → Nat} (h : MT w g n X L Cp) (v : Value) (hi : i % 4 ≠ 1) : MT (w.setCell ⟨g, i, none⟩ v) g n X L Cp := by
  refine ⟨h.ex.set, fun j hj => by rw [World.frozen?_setCell]; exact h.wr j hj, fun j hj => ?_, fun j hj => (h.tx j hj).set (h.off j hj), h.off, h.dis⟩
  rw [cell_set_other (by omega)]
  exact h.sl j hj
/-- Where the marks of term i begin. -/
def posT (L : Nat → Nat) (k : Int) : Nat → Int
  | 0 => k
  | i + 1 => posT L k i + L i + 3
/-- Term i is marked from q on. -/
structure MdT (w : World) (g : Nat) (X : Nat → Option Addr) (L Cp : Nat → Nat) (q : Int) (i : Nat) : Prop where
  c0 : w.cell? ⟨g, i * 4, none⟩ = some (.int .i64 q)
  c1 : w.cell? ⟨g, i * 4 + 1, none⟩ = some (.slice (X i) (L i) (Cp i))
  t : MarkedW w (X i) (L i) (q + 1)
  c2 : w.cell? ⟨g, i * 4 + 2, none⟩ = some (.int .i64 (q + 1 + L i))
  c3 : w.cell? ⟨g, i * 4 + 3, none⟩ = some (.int .i64 (q + 1 + L i + 1))
theorem MdT.but {w w' : World} {g c : Nat} {X : Nat → Option Addr} {L Cp : Nat → Nat} {q : Int} {i : Nat} (h : MdT w g X L Cp q i) (hb : But c w w') (hg : g ≠ c) (hc : NoB (X i) (L i) c) : MdT w' g X L Cp q i := by
  have e : ∀ i, w'.cell? ⟨g, i, none⟩ = w.cell? ⟨g, i, none⟩ := fun i => hb.cell (p := ⟨g, i, none⟩) hg
  exact ⟨(e _).trans h.c0, (e _).trans h.c1, h.t.but hb hc, (e _).trans h.c2, (e _).trans h.c3⟩
theorem MdT.set {w : World} {g o : Nat} {X : Nat → Option Addr} {L Cp : Nat → Nat} {q : Int} {i : Nat} {v : Value} (h : MdT w g X L Cp q i) (ho : i * 4 + 4 ≤ o) (hc : NoB (X i) (L i) g) : MdT (w.setCell ⟨g, o, none⟩ v) g X L Cp q i := by
  refine ⟨?_, ?_, h.t.but ((But.refl g w).set o v) hc, ?_, ?_⟩
  · rw [cell_set_other (by omega)]; exact h.c0
  · rw [cell_set_other (by omega)]; exact h.c1
  · rw [cell_set_other (by omega)]; exact h.c2
  · rw [cell_set_other (by omega)]; exact h.c3
theorem MdT.below {w w' : World} {g : Nat} {X : Nat → Option Addr} {L Cp : Nat → Nat} {q : Int} {i : Nat} (h : MdT w g X L Cp q i) (hg : g < w.heap.size) (hb : Below w.heap.size w w') : MdT w' g X L Cp q i := by
  have e : ∀ i, w'.cell? ⟨g, i, none⟩ = w.cell? ⟨g, i, none⟩ := fun i => hb.cell (p := ⟨g, i, none⟩) hg
  exact ⟨(e _).trans h.c0, (e _).trans h.c1, h.t.below hb, (e _).trans h.c2, (e _).trans h.c3⟩

end Go.Proofs.YtobnpfcgcoooeaaGreatDoor

/- StwB -/
namespace Go.Proofs.YtobnpfcgcoooeaaGreatDoor
open Go.RowKit Go.Deep
set_option maxRecDepth 100000

/-- Rows of numbers that may be marked. -/
def RwW (w : World) (a : Option Addr) (n : Nat) : Prop := n ≤ 1048576 ∧ (n = 0 ∨ ∃ g, a = some ⟨g, 0, none⟩ ∧ g < w.heap.size ∧ Ex w g (n * 3) ∧ Wr w g (n * 3))
/-- Row i is marked from q on. -/
structure MdR1 (w : World) (g : Nat) (q : Int) (i : Nat) : Prop where
  c0 : w.cell? ⟨g, i * 3, none⟩ = some (.int .i64 q)
  c1 : w.cell? ⟨g, i * 3 + 1, none⟩ = some (.int .i64 (q + 1))
  c2 : w.cell? ⟨g, i * 3 + 2, none⟩ = some (.int .i64 (q + 1 + 1))
def MdR (w : World) (a : Option Addr) (n : Nat) (k : Int) : Prop := n = 0 ∨ ∃ g, a = some ⟨g, 0, none⟩ ∧ g < w.heap.size ∧ ∀ i : Nat, i < n → MdR1 w g (k + 3 * (i : Int)) i
theorem RwW.but {w w' : World} {a : Option Addr} {n c : Nat} (h : RwW w a n) (hb : But c w w') (hc : NoB a n c) : RwW w' a n := by
  refine ⟨h.1, ?_⟩
  rcases h.2 with h0 | ⟨g, rfl, hl, hx, hw⟩
  · exact .inl h0
  · by_cases h0 : n = 0
    · exact .inl h0
    · have hne : g ≠ c := hc.ne (by omega)
      exact .inr ⟨g, rfl, by rw [hb.size]; exact hl, fun i hi => by rw [hb.cell (p := ⟨g, i, none⟩) hne]; exact hx i hi, fun i hi => by rw [hb.frozen (p := ⟨g, i, none⟩) hne]; exact hw i hi⟩
theorem MdR1.set {w : World} {g o : Nat} {q : Int} {i : Nat} {v : Value} (h : MdR1 w g q i) (ho : i * 3 + 3 ≤ o) : MdR1 (w.setCell ⟨g, o, none⟩ v) g q i := by
  refine ⟨?_, ?_, ?_⟩
  · rw [cell_set_other (by omega)]; exact h.c0
  · rw [cell_set_other (by omega)]; exact h.c1
  · rw [cell_set_other (by omega)]; exact h.c2
theorem MdR1.of {w w' : World} {g : Nat} {q : Int} {i : Nat} (h : MdR1 w g q i) (e : ∀ i, w'.cell? ⟨g, i, none⟩ = w.cell? ⟨g, i, none⟩) : MdR1 w' g q i := ⟨(e _).trans h.c0, (e _).trans h.c1, (e _).trans h.c2⟩
theorem MdR.but {w w' : World} {a : Option Addr} {n c : Nat} {k : Int} (h : MdR w a n k) (hb : But c w w') (hc : NoB a n c) : MdR w' a n k := by
  rcases h with h0 | ⟨g, rfl, hl, hx⟩
  · exact .inl h0
  · by_cases h0 : n = 0
    · exact .inl h0
    · have hne : g ≠ c := hc.ne (by omega)
      exact .inr ⟨g, rfl, by rw [hb.size]; exact hl, fun i hi => (hx i hi).of (fun i => hb.cell (p := ⟨g, i, none⟩) hne)⟩
theorem MdR.below {w w' : World} {a : Option Addr} {n : Nat} {k : Int} (h : MdR w a n k) (hb : Below w.heap.size w w') : MdR w' a n k := by
  rcases h with h0 | ⟨g, rfl, hl, hx⟩
  · exact .inl h0
  · exact .inr ⟨g, rfl, Nat.lt_of_lt_of_le hl hb.size, fun i hi => (hx i hi).of (fun i => hb.cell (p := ⟨g, i, none⟩) hl)⟩

/-- Where the marks of list i begin. -/
def posR (L : Nat → Nat) (k : Int) : Nat → Int
  | 0 => k
  | i + 1 => posR L k i + 3 * (L i : Int)
end Go.Proofs.YtobnpfcgcoooeaaGreatDoor

/- StrD -/
namespace Go.Proofs.YtobnpfcgcoooeaaGreatDoor
open Go.RowKit Go.Deep
set_option maxRecDepth 100000

theorem bl_regrown {w : World} (d : Nat) (os : Array Obj) : Below w.heap.size w (Go.Sort.grow (redrawn w d) os) := below_regrown w d os
/-- A box of three. -/
def Row3c (w : World) (b : Nat) (v0 v1 v2 : Value) : Prop := b < w.heap.size ∧ w.cell? ⟨b, 0, none⟩ = some v0 ∧ w.cell? ⟨b, 1, none⟩ = some v1 ∧ w.cell? ⟨b, 2, none⟩ = some v2
theorem Row3c.below {w w' : World} {b : Nat} {v0 v1 v2 : Value} (h : Row3c w b v0 v1 v2) (hb : Below w.heap.size w w') : Row3c w' b v0 v1 v2 := by
  obtain ⟨hl, h0, h1, h2⟩ := h
  exact ⟨Nat.lt_of_lt_of_le hl hb.size, (hb.cell (p := ⟨b, 0, none⟩) hl).trans h0, (hb.cell (p := ⟨b, 1, none⟩) hl).trans h1, (hb.cell (p := ⟨b, 2, none⟩) hl).trans h2⟩
theorem Row3c.at (w : World) (b : Nat) (v0 v1 v2 : Value) (t : TypeId) (e : b = w.heap.size) : Row3c (w.alloc (.cells #[v0, v1, v2] t)) b v0 v1 v2 := by
  subst e
  refine ⟨by simp, by simp [go_sem], by simp [go_sem], by simp [go_sem]⟩

end Go.Proofs.YtobnpfcgcoooeaaGreatDoor

/- CmpE -/
namespace Go.Proofs.YtobnpfcgcoooeaaGreatDoor
open Go.RowKit Go.Deep

theorem two_boxes (w : World) (v0 v1 v2 v3 u0 u1 u2 u3 : Value) (t : TypeId) (q : Nat) :
    At4 (((w.alloc (.cells #[v0, v1, v2, v3] t)).alloc (.cells #[u0, u1, u2, u3] t)).drewN q) w.heap.size v0 v1 v2 v3 ∧
    At4 (((w.alloc (.cells #[v0, v1, v2, v3] t)).alloc (.cells #[u0, u1, u2, u3] t)).drewN q) (w.heap.size + 1) u0 u1 u2 u3 ∧
    Below w.heap.size w (((w.alloc (.cells #[v0, v1, v2, v3] t)).alloc (.cells #[u0, u1, u2, u3] t)).drewN q) :=
  ⟨(At4.new w _ _ _ _ _).below (below_drewN (bl_a _) q), (At4.at (w.alloc _) _ _ _ _ _ _ (by simp)).below (below_drewN (Below.refl _ _) q), below_drewN (bl_alloc (bl_a _) _) q⟩
theorem bl_q {w : World} (q : Nat) : Below w.heap.size w (w.drewN q) := below_drewN (Below.refl _ _) q

set_option maxHeartbeats 1000000 in
theorem l1compareNum_any (k n k' n' : Int) (s s' : Nat) (a a' : Option Addr) (len cap len' cap' : Nat) (w : World) (hs : s ≤ 6) (h1 : -9223372036854775808 ≤ n) (h2 : n ≤ 9223372036854775807) (hs' : s' ≤ 6) (h1' : -9223372036854775808 ≤ n') (h2' : n' ≤ 9223372036854775807) :
    Calls Tryz.prog 50 #[.agg #[.int .i64 k, .slice a len cap, .int .i64 n, .int .i64 s], .agg #[.int .i64 k', .slice a' len' cap', .int .i64 n', .int .i64 s']] w fun e w' =>
      e = .returned (.int .i64 (cmpN n s n' s')) ∧ Below w.heap.size w w' := by
  have b1 := p10_pos s
  have b2 := p10_le hs
  have b3 := p10_pos (6 - s)
  have b4 : p10 (6 - s) ≤ 1000000 := p10_le (by omega)
  have r := rest_bound n s hs
  have t := tmod_bound n (p10 s) b1
  have c1 := p10_pos s'
  have c2 := p10_le hs'
  have c3 := p10_pos (6 - s')
  have c4 : p10 (6 - s') ≤ 1000000 := p10_le (by omega)
  have r' := rest_bound n' s' hs'
  have t' := tmod_bound n' (p10 s') c1
  have hc : ((6 - s : Nat) : Int) = 6 - (s : Int) := by omega
  have hc' : ((6 - s' : Nat) : Int) = 6 - (s' : Int) := by omega
  have T1 := fun w => l1pow_any s w hs
  have T2 := fun w => l1pow_any s' w hs'
  have T3 := fun w => l1pow_any (6 - s) w (by omega)
  have T4 := fun w => l1pow_any (6 - s') w (by omega)
  rw [hc] at T3
  rw [hc'] at T4
  clear hc hc'
  unfold restOf at r r'
  have hw : wrap64 (n.tmod (p10 s) * p10 (6 - s)) = n.tmod (p10 s) * p10 (6 - s) := IntWalk.wrap64_in _ ⟨by omega, by omega⟩
  have hw' : wrap64 (n'.tmod (p10 s') * p10 (6 - s')) = n'.tmod (p10 s') * p10 (6 - s') := IntWalk.wrap64_in _ ⟨by omega, by omega⟩
  by_cases hxy : n.tdiv (p10 s) = n'.tdiv (p10 s')
  · have ec : Hid (cmpN n s n' s' = cmpI (n.tmod (p10 s) * p10 (6 - s)) (n'.tmod (p10 s') * p10 (6 - s'))) := by
      show _ = _
      unfold cmpN
      rw [cmpI_eq hxy]
      rfl
    have HX : Hid (n.tdiv (p10 s) = n'.tdiv (p10 s')) := hxy
    have hne : (n.tdiv (p10 s) != n'.tdiv (p10 s')) = false := by simp [hxy]
    clear hxy
    go_enter Tryz.func50, Tryz.ntmps50
    go_wp2_with fail
    go_quiet ((go_at_call 81; first | with_reducible exact Calls.quiet_of_same (T1 _) | with_reducible exact Calls.quiet_of_same (T2 _)))
    go_wp2_with fail
    obtain ⟨hA5, hX5, hw5⟩ := two_boxes w (.int .i64 k) (.slice a len cap) (.int .i64 n) (.int .i64 s) (.int .i64 k') (.slice a' len' cap') (.int .i64 n') (.int .i64 s') 37 nq
    generalize World.drewN _ nq = w5 at hA5 hX5 hw5 ⊢
    obtain ⟨y0, y1, y2, y3, y4⟩ := id hA5
    obtain ⟨x0, x1, x2, x3, x4⟩ := id hX5
    go_quiet ((go_at_call 81; first | with_reducible exact Calls.quiet_of_same (T1 _) | with_reducible exact Calls.quiet_of_same (T3 _)))
    go_wp2_with fail
    have hA6 := hA5.below (bl_q nq)
    have hX6 := hX5.below (bl_q nq)
    have hw6 := bl_trans hw5 (bl_q nq)
    clear hA5 hX5 hw5 y0 y1 y2 y3 y4 x0 x1 x2 x3 x4
    generalize World.drewN w5 nq = w6 at hA6 hX6 hw6 ⊢
    obtain ⟨y0, y1, y2, y3, y4⟩ := id hA6
    obtain ⟨x0, x1, x2, x3, x4⟩ := id hX6
    go_quiet ((go_at_call 81; first | with_reducible exact Calls.quiet_of_same (T2 _) | with_reducible exact Calls.quiet_of_same (T4 _)))
    go_wp2_with fail
    refine (side_any _ _ _).mono ?_
    rintro e w1 ⟨rfl, rfl⟩
    go_wp2
    go_ret
    refine ⟨?_, bl_trans hw6 (bl_q _)⟩
    rw [ec.out, ← sideI_lt]
    rfl
  · have ec : Hid (cmpN n s n' s' = cmpI (n.tdiv (p10 s)) (n'.tdiv (p10 s'))) := by
      show _ = _
      unfold cmpN orI
      rw [if_neg]
      unfold cmpI
      split
      · decide
      · split
        · decide
        · omega
    have HX : Hid (n.tdiv (p10 s) ≠ n'.tdiv (p10 s')) := hxy
    have hne : (n.tdiv (p10 s) != n'.tdiv (p10 s')) = true := by simp [hxy]
    clear hxy
    go_enter Tryz.func50, Tryz.ntmps50
    go_wp2_with fail
    go_quiet ((go_at_call 81; first | with_reducible exact Calls.quiet_of_same (T1 _) | with_reducible exact Calls.quiet_of_same (T2 _)))
    go_wp2_with fail
    refine (side_any _ _ _).mono ?_
    rintro e w1 ⟨rfl, rfl⟩
    go_wp2
    go_ret
    refine ⟨?_, below_drewN (bl_alloc (bl_a _) _) _⟩
    rw [ec.out, ← sideI_ne _ _ HX.out]
    rfl

theorem cmpB_nil : cmpB [] [] = 0 := rfl
theorem cmpN_blank (n n' : Int) : cmpN n 0 n' 0 = cmpI n n' := by
  have e1 : p10 0 = 1 := rfl
  have e2 : restOf n 0 = 0 := by simp [restOf, e1]
  have e3 : restOf n' 0 = 0 := by simp [restOf, e1]
  unfold cmpN
  rw [e1, e2, e3, Int.tdiv_one, Int.tdiv_one]
  unfold orI
  split
  · rename_i h; rw [h]; rfl
  · rfl

/-- The model's comparing of two strings is the program's. -/
theorem less_cmp : ∀ (xs ys : List UInt8), Lib.compareBytes xs ys = if Op.bytesLess xs ys then -1 else if (!Op.bytesLess xs ys && !(xs == ys)) then 1 else 0 := by
  intro xs
  induction xs with
  | nil => intro ys; cases ys <;> simp [Lib.compareBytes, Op.bytesLess]
  | cons x xs ih =>
    intro ys
    cases ys with
    | nil => simp [Lib.compareBytes, Op.bytesLess]
    | cons y ys =>
      unfold Lib.compareBytes
      by_cases h1 : x < y
      · simp [h1, Op.bytesLess]
      · by_cases h2 : y < x
        · have hne : x ≠ y := by intro e; subst e; exact h1 h2
          simp [h1, h2, Op.bytesLess, hne]
        · have hxy : x = y := UInt8.le_antisymm (UInt8.not_lt.1 h2) (UInt8.not_lt.1 h1)
          subst hxy
          rw [ih]
          simp [h1, Op.bytesLess]
end Go.Proofs.YtobnpfcgcoooeaaGreatDoor
