/- Texts put together: TrvA GtxD -/
import Derived.Test.YtganfiajhokkmaaGreatDoorMk12
/- TrvA -/
namespace Go.Proofs.YtganfiajhokkmaaGreatDoor
open Go.RowKit Go.Deep
set_option maxRecDepth 100000

/-- What adding to a list in the box g leaves. -/
structure KQ (g : Nat) (v : Value) (w : World) (v' : Value) (w' : World) : Prop where
  os : w'.os = w.os
  tape : w'.tape = w.tape
  output : w'.output = w.output
  size : w.heap.size ≤ w'.heap.size
  block : ∀ b, b < w.heap.size → b ≠ g → v.ownBlock ≠ some b → w'.heap[b]? = w.heap[b]?
  blk : ∀ c, v'.ownBlock = some c → v.ownBlock = some c ∨ w.heap.size ≤ c
theorem KQ.of_kp {g : Nat} {v v' : Value} {w w' : World} (h : Kp v w v' w') : KQ g v w v' w' := ⟨h.os, h.tape, h.output, h.size, fun b hb _ hn => h.block b hb hn, h.blk⟩
theorem KQ.of_below {g : Nat} {v : Value} {w w' : World} (h : Below w.heap.size w w') : KQ g v w v w' := .of_kp (.of_below h)
theorem KQ.trans {g : Nat} {v v' v'' : Value} {w w' w'' : World} (h : KQ g v w v' w') (k : KQ g v' w' v'' w'') : KQ g v w v'' w'' :=
  ⟨k.os.trans h.os, k.tape.trans h.tape, k.output.trans h.output, Nat.le_trans h.size k.size, fun b hb hg hn => (k.block b (Nat.lt_of_lt_of_le hb h.size) hg (fun e => by
    rcases h.blk b e with e' | e'
    · exact hn e'
    · omega)).trans (h.block b hb hg hn), fun c hc => by
    rcases k.blk c hc with e | e
    · exact h.blk c e
    · exact .inr (Nat.le_trans h.size e)⟩
theorem KQ.past {g : Nat} {v v' : Value} {w w' w'' : World} (h : KQ g v w v' w') (k : Past g w' w'') : KQ g v w v' w'' :=
  ⟨k.os.trans h.os, k.tape.trans h.tape, k.output.trans h.output, Nat.le_trans h.size k.size, fun b hb hg hn => (k.block b (Nat.lt_of_lt_of_le hb h.size) hg).trans (h.block b hb hg hn), h.blk⟩
theorem KQ.box {g : Nat} {v v' : Value} {w w' : World} {b : Nat} {L : List Value} (h : KQ g v w v' w') (hx : Box w b L) (hg : b ≠ g) (hn : v.ownBlock ≠ some b) : Box w' b L := ⟨Nat.lt_of_lt_of_le hx.1 h.size, fun c u hu => (World.cell?_of_block (w := w) (a := ⟨b, c, none⟩) (h.block b hx.1 hg hn)).trans (hx.2 c u hu)⟩
theorem KQ.low {g : Nat} {v v' : Value} {w w' : World} {B : Nat} (h : KQ g v w v' w') (hv : ∀ c, v.ownBlock = some c → B ≤ c) (hg : B ≤ g) (hB : B ≤ w.heap.size) : Below B w w' := ⟨h.os, h.tape, h.output, h.size, fun b hb => h.block b (by omega) (by omega) (fun e => by have := hv b e; omega)⟩
/-- A list of variables in the box g. -/
structure VQ (w0 w : World) (B g : Nat) (v : Value) (L : List SL) : Prop where
  cell : w.cell? ⟨g, 0, none⟩ = some v
  fr : w.frozen? ⟨g, 0, none⟩ = false
  lt : g < w.heap.size
  vl : VL w0 w B v L
  ne : v.ownBlock ≠ some g
  lo : w0.heap.size ≤ B
  gl : w0.heap.size ≤ g
  bl : Below w0.heap.size w0 w
  sz : B ≤ w.heap.size
theorem VQ.below {w0 w w' : World} {B g : Nat} {v : Value} {L : List SL} (h : VQ w0 w B g v L) (hb : Below w.heap.size w w') : VQ w0 w' B g v L :=
  ⟨(hb.cell (p := ⟨g, 0, none⟩) h.lt).trans h.cell, (hb.frozen (p := ⟨g, 0, none⟩) h.lt).trans h.fr, Nat.lt_of_lt_of_le h.lt hb.size, h.vl.below hb, h.ne, h.lo, h.gl, h.bl.trans (hb.mono h.bl.size), Nat.le_trans h.sz hb.size⟩
/-- What adding to a list in the box g does. -/
def AddQ (w0 : World) (B g : Nat) (v : Value) (R : List (List Int)) (w : World) (e : Ending) (w' : World) : Prop := ∃ v' L', e = .returned (.tuple #[]) ∧ VQ w0 w' B g v' L' ∧ L'.map SL.b = R ∧ KQ g v w v' w'
theorem appQ {ops : Array Oper} {rest : List Oper} {o : Oper} {a : Act} {Q : Exit → Act → World → Prop} {w : World} (hgd : o.guard = none) (s x : Operand)
    (ho : o.op = .call { callee := .builtin .append, args := #[s, x], argTypes := #[72, 72] })
    (w0 : World) (B : Nat) (v : Value) (L : List SL) (hs : a.eval s = v) (HO : Hid (VL w0 w B v L)) (y : SL) (hy : BsF 0 w0 y)
    (ad : Addr) (c : Nat) (hx : a.eval x = .slice (some ad) 1 c) (HN : Hid (∀ j u, ([y.v] : List Value)[j]? = some u → w.cell? (ad.add j) = some u)) (hle : L.length ≤ 1048576) (hB : B ≤ w.heap.size)
    (h : ∀ g cap w', Hid (VL w0 w' B (.slice (some ⟨g, 0, none⟩) (L.length + 1) cap) (L ++ [y])) → Hid (Kp v w (.slice (some ⟨g, 0, none⟩) (L.length + 1) cap) w') → wpList Tryz.prog ops Q rest (a.put o.dst (.slice (some ⟨g, 0, none⟩) (L.length + 1) cap)) w') :
    wpList Tryz.prog ops Q (o :: rest) a w := by
  obtain ⟨i0, hi0, hzz⟩ := Option.map_eq_some_iff.1 Tryz.infoB27
  simp only [Prod.mk.injEq] at hzz
  obtain ⟨hi2, hi1, hi3⟩ := hzz
  refine wpList_append_lies _ hgd s x 72 ho B 27 i0 (.slice none 0 0) 1 24 Tryz.underlying72 hi0 hi2 hi1 hi3 rfl (by omega) v L.length (L.map SL.v) hs HO.out.own ad 1 c [y.v] hx rfl HN.out (fun u hu => by simp only [List.mem_cons, List.not_mem_nil, or_false] at hu; rw [hu]; rfl) (by omega) (by unfold maxLen; omega) (by omega) hB _ rfl ?_
  intro g cap w' hown hgr hat hlt
  refine h g cap w' ⟨?_, fun g' hg' => ?_, fun z hz => ?_⟩ ⟨hgr.os, hgr.tape, hgr.output, hgr.size, fun b hb hn => hgr.block b hb (fun e => hn e.symm), fun g' hg' => ?_⟩
  · rw [List.map_append, List.length_append]
    exact hown
  · have : g = g' := by simpa [Value.ownBlock] using hg'
    subst this
    rcases hown.2 with ⟨hv, _⟩ | ⟨g0, c0, cur, hv, hb, _⟩
    · cases hv
    · cases hv; exact ⟨hb, hlt⟩
  · rcases List.mem_append.1 hz with hz | hz
    · exact HO.out.txt z hz
    · rw [List.mem_singleton.1 hz]
      exact hy
  · have : g = g' := by simpa [Value.ownBlock] using hg'
    subst this
    rcases hat with e | e
    · exact .inl e
    · exact .inr (by rw [e]; exact Nat.le_refl _)
/-- The new list is laid into the box. -/
theorem VQ.put {w0 w w9 : World} {B g : Nat} {v v9 : Value} {L L9 : List SL} (h : VQ w0 w B g v L) (hK : Kp v w v9 w9) (hV : VL w0 w9 B v9 L9) : VQ w0 (w9.setCell ⟨g, 0, none⟩ v9) B g v9 L9 ∧ KQ g v w v9 (w9.setCell ⟨g, 0, none⟩ v9) := by
  have hb := hK.block g h.lt h.ne
  have hc : w9.cell? ⟨g, 0, none⟩ = some v := (World.cell?_of_block (w := w) (a := ⟨g, 0, none⟩) hb).trans h.cell
  have hne : v9.ownBlock ≠ some g := fun e => by
    rcases hK.blk g e with e | e
    · exact h.ne e
    · have := h.lt
      omega
  have hp : Past g w9 (w9.setCell ⟨g, 0, none⟩ v9) := (Past.refl g w9).set 0 _
  have hq : KQ g v w v9 (w9.setCell ⟨g, 0, none⟩ v9) := (KQ.of_kp hK).past hp
  refine ⟨⟨set_same hc, ?_, Nat.lt_of_lt_of_le h.lt hq.size, hV.keep hp.size (fun c hc' => hp.block c (hV.lo c hc').2 (fun e => hne (by rw [← e]; exact hc'))), hne, h.lo, h.gl, ?_, Nat.le_trans h.sz hq.size⟩, hq⟩
  · rw [World.frozen?_setCell]
    exact (World.frozen?_of_block (w := w) (a := ⟨g, 0, none⟩) hb).trans h.fr
  · exact h.bl.trans (hq.low (fun c hc' => Nat.le_trans h.lo (h.vl.lo c hc').1) h.gl h.bl.size)
set_option maxHeartbeats 2000000 in
theorem add_any (v : Value) (L : List SL) (x : SL) (B g : Nat) (w0 w : World) (h : VQ w0 w B g v L) (hx : BsF 0 w0 x) (hn : L.length ≤ 1000000) :
    Calls Tryz.prog 43 #[.pointer (some ⟨g, 0, none⟩), .slice x.a x.len x.cap] w (AddQ w0 B g v (addV (L.map SL.b) x.b) w) := by
  have HLX : Hid (x.b = [] ↔ x.len = 0) := nil_len hx.1.1
  have HV : Hid (VQ w0 w B g v L) := h
  have HX : Hid (BsF 0 w0 x) := hx
  have HAS := has_any v L x B w0 w h.vl h.bl hx (by omega)
  obtain ⟨a, cap, rfl, _⟩ := h.vl.form
  obtain ⟨n, hnn⟩ : ∃ n, n = L.length := ⟨_, rfl⟩
  have HN : Hid (n = L.length) := hnn
  rw [← hnn] at HAS HV ⊢
  clear h hx hnn
  by_cases h0 : x.len = 0
  · have HR : Hid (addV (L.map SL.b) x.b = L.map SL.b) := (show addV _ _ = _ by unfold addV; rw [if_pos (.inl (HLX.out.2 h0))])
    clear HAS
    go_enter Tryz.func43, Tryz.ntmps43
    go_wp2_with fail
    go_end0
    exact ⟨_, L, rfl, HV.out, HR.out.symm, KQ.of_below (Below.refl _ _)⟩
  have h0b : (0 : Int) < (x.len : Int) := by omega
  have h0c : 0 < x.len := by omega
  have H0 : Hid (¬ x.b = []) := fun e => h0 (HLX.out.1 e)
  have c0 := HV.out.cell
  clear h0
  go_enter Tryz.func43, Tryz.ntmps43
  go_wp2_with fail
  refine HAS.mono ?_
  rintro e w1 ⟨q, rfl, hq, hb1⟩
  have HB1 : Hid (Below w.heap.size w w1) := hb1
  clear HAS hb1 c0
  cases q with
  | true =>
    have HR : Hid (addV (L.map SL.b) x.b = L.map SL.b) := (show addV _ _ = _ by unfold addV; rw [if_pos (.inr (hq.1 rfl))])
    clear hq
    go_wp2_with fail
    go_end0
    exact ⟨_, L, rfl, HV.out.below HB1.out, HR.out.symm, KQ.of_below HB1.out⟩
  | false =>
    have HR : Hid (addV (L.map SL.b) x.b = (L ++ [x]).map SL.b) := (show addV _ _ = _ by
      unfold addV
      rw [if_neg (fun hh => by
        rcases hh with hh | hh
        · exact H0.out hh
        · have := hq.2 hh
          cases this), List.map_append]
      rfl)
    clear hq
    have HV1 : Hid (VQ w0 w1 B g (.slice a n cap) L) := HV.out.below HB1.out
    have HV2 : Hid (∀ o, VQ w0 (w1.alloc o) B g (.slice a n cap) L) := fun o => HV1.out.below (bl_a o)
    have HO1 : Hid (∀ o, VL w0 (w1.alloc o) B (.slice a n cap) L) := fun o => (HV2.out o).vl
    have c1 := HV1.out.cell
    have HCL : Hid (∀ o v' w9, Kp (.slice a n cap) (w1.alloc o) v' w9 → w9.cell? ⟨g, 0, none⟩ = some (.slice a n cap) ∧ w9.frozen? ⟨g, 0, none⟩ = false) := fun o v' w9 hK => ⟨(World.cell?_of_block (w := w1.alloc o) (a := ⟨g, 0, none⟩) (hK.block g (HV2.out o).lt (HV2.out o).ne)).trans (HV2.out o).cell, (World.frozen?_of_block (w := w1.alloc o) (a := ⟨g, 0, none⟩) (hK.block g (HV2.out o).lt (HV2.out o).ne)).trans (HV2.out o).fr⟩
    have HNW : Hid (∀ j u, ([x.v] : List Value)[j]? = some u → (w1.alloc (.cells #[.slice x.a x.len x.cap] 27)).cell? ((⟨w1.heap.size, 0, none⟩ : Addr).add j) = some u) := by
      intro j u hu
      have h1 : (w1.alloc (.cells #[.slice x.a x.len x.cap] 27)).heap[w1.heap.size]? = some (.cells #[.slice x.a x.len x.cap] 27) := by
        show (w1.heap.push _)[w1.heap.size]? = _
        rw [Array.getElem?_push]
        simp
      exact World.news_of_block h1 j u hu
    have hle1 : L.length ≤ 1048576 := by have := HN.out; omega
    have hB1 : ∀ o, B ≤ (w1.alloc o).heap.size := fun o => (HV2.out o).sz
    go_wp2_with (refine appQ rfl (.tmp 18) (.tmp 20) rfl w0 B (.slice a n cap) L rfl (HO1.out _) x HX.out ⟨w1.heap.size, 0, none⟩ 1 rfl HNW hle1 (hB1 _) ?_; intro g9 k9 w9 HO9 HK9; obtain ⟨cc9, ff9⟩ := HCL.out _ _ _ HK9.out)
    go_end0
    obtain ⟨r1, r2⟩ := (HV2.out _).put HK9.out HO9.out
    exact ⟨_, _, rfl, r1, HR.out.symm, (KQ.of_below (bl_trans HB1.out (bl_a _))).trans r2⟩
end Go.Proofs.YtganfiajhokkmaaGreatDoor

/- GtxD -/
namespace Go.Proofs.YtganfiajhokkmaaGreatDoor
open Go.RowKit Go.Deep
set_option maxRecDepth 100000

/-- There lies a byte. -/
def U8 (w : World) (b j : Nat) : Prop := ∃ v, w.cell? ⟨b, j, none⟩ = some (.int .u8 v)
/-- Bytes stay bytes, and what may be written may be. -/
structure U8K (w w' : World) : Prop where
  u : ∀ b j, U8 w b j → U8 w' b j
  f : ∀ p, w'.frozen? p = w.frozen? p
theorem U8K.refl (w : World) : U8K w w := ⟨fun _ _ h => h, fun _ => rfl⟩
theorem U8K.trans {w w' w'' : World} (h : U8K w w') (k : U8K w' w'') : U8K w w'' := ⟨fun b j q => k.u b j (h.u b j q), fun p => (k.f p).trans (h.f p)⟩
theorem cell_set_other {w : World} {g i b j : Nat} {v : Value} (h : b ≠ g ∨ j ≠ i) : (w.setCell ⟨g, i, none⟩ v).cell? ⟨b, j, none⟩ = w.cell? ⟨b, j, none⟩ := by
  by_cases hb : b = g
  · subst hb
    exact set_other (h.resolve_left (fun k => k rfl))
  · exact World.cell?_of_block (Below.heap_setCell _ _ _ _ (by exact hb))

/-- What lies below B or from C on is as it was. -/
structure Mid (B C : Nat) (w w' : World) : Prop where
  os : w'.os = w.os
  tape : w'.tape = w.tape
  output : w'.output = w.output
  size : w'.heap.size = w.heap.size
  block : ∀ b, b < B ∨ C ≤ b → w'.heap[b]? = w.heap[b]?
theorem Mid.refl (B C : Nat) (w : World) : Mid B C w w := ⟨rfl, rfl, rfl, rfl, fun _ _ => rfl⟩
theorem Mid.but {B C g : Nat} {w w1 w2 : World} (h : Mid B C w w1) (k : But g w1 w2) (hB : B ≤ g) (hC : g < C) : Mid B C w w2 :=
  ⟨k.os.trans h.os, k.tape.trans h.tape, k.output.trans h.output, k.size.trans h.size, fun b hb => (k.block b (by omega)).trans (h.block b hb)⟩
theorem Mid.below {B C : Nat} {w w' : World} (h : Mid B C w w') : Below B w w' := ⟨h.os, h.tape, h.output, by rw [h.size]; exact Nat.le_refl _, fun b hb => h.block b (.inl hb)⟩

/-- A row of triples that may be marked. -/
structure Mk (w : World) (B C g n : Nat) (A1 A2 A3 l1 l2 l3 : Nat → Nat) : Prop where
  ex : Ex w g (n * 12)
  wr : Wr w g (n * 12)
  s1 : ∀ i, i < n → w.cell? ⟨g, i * 12 + 1, none⟩ = some (.slice (some ⟨A1 i, 0, none⟩) (l1 i) (l1 i))
  s2 : ∀ i, i < n → w.cell? ⟨g, i * 12 + 5, none⟩ = some (.slice (some ⟨A2 i, 0, none⟩) (l2 i) (l2 i))
  s3 : ∀ i, i < n → w.cell? ⟨g, i * 12 + 9, none⟩ = some (.slice (some ⟨A3 i, 0, none⟩) (l3 i) (l3 i))
  t1 : ∀ i, i < n → ∀ j, j < l1 i → U8 w (A1 i) j ∧ w.frozen? ⟨A1 i, j, none⟩ = false
  t2 : ∀ i, i < n → ∀ j, j < l2 i → U8 w (A2 i) j ∧ w.frozen? ⟨A2 i, j, none⟩ = false
  t3 : ∀ i, i < n → ∀ j, j < l3 i → U8 w (A3 i) j ∧ w.frozen? ⟨A3 i, j, none⟩ = false
  b1 : ∀ i, i < n → g < A1 i ∧ A1 i < C ∧ l1 i ≤ 1048576
  b2 : ∀ i, i < n → g < A2 i ∧ A2 i < C ∧ l2 i ≤ 1048576
  b3 : ∀ i, i < n → g < A3 i ∧ A3 i < C ∧ l3 i ≤ 1048576
  bg : B ≤ g ∧ g < C
theorem Mk.set {w : World} {B C g n i : Nat} {A1 A2 A3 l1 l2 l3 : Nat → Nat} (h : Mk w B C g n A1 A2 A3 l1 l2 l3) (v : Value) (hi : i % 4 ≠ 1) : Mk (w.setCell ⟨g, i, none⟩ v) B C g n A1 A2 A3 l1 l2 l3 := by
  refine ⟨h.ex.set, fun j hj => by rw [World.frozen?_setCell]; exact h.wr j hj, fun j hj => ?_, fun j hj => ?_, fun j hj => ?_, fun j hj q hq => ?_, fun j hj q hq => ?_, fun j hj q hq => ?_, h.b1, h.b2, h.b3, h.bg⟩
  · rw [cell_set_other (by omega)]; exact h.s1 j hj
  · rw [cell_set_other (by omega)]; exact h.s2 j hj
  · rw [cell_set_other (by omega)]; exact h.s3 j hj
  · unfold U8; rw [cell_set_other (by have := h.b1 j hj; omega), World.frozen?_setCell]; exact h.t1 j hj q hq
  · unfold U8; rw [cell_set_other (by have := h.b2 j hj; omega), World.frozen?_setCell]; exact h.t2 j hj q hq
  · unfold U8; rw [cell_set_other (by have := h.b3 j hj; omega), World.frozen?_setCell]; exact h.t3 j hj q hq
theorem Mid.set {B C g i : Nat} {w w1 : World} {v : Value} (h : Mid B C w w1) (hB : B ≤ g) (hC : g < C) : Mid B C w (w1.setCell ⟨g, i, none⟩ v) := h.but ((But.refl g w1).set i v) hB hC

end Go.Proofs.YtganfiajhokkmaaGreatDoor
