/- Texts put together: ShwF ShwG -/
import Derived.Test.YtdcaicoomldmgaaGreatDoorMk20
import Derived.Test.YtdcaicoomldmgaaGreatDoorMk03
/- ShwF -/
namespace Go.Proofs.YtdcaicoomldmgaaGreatDoor
open Go.RowKit Go.Deep
/-- What a number shows as, less its sign. -/
def numL (n : Int) (s : Nat) : List Int :=
  digitsL (n / p10 s).toNat ++ (if s = 0 then [] else 46 :: (List.replicate (s - (digitsL (n % p10 s).toNat).length) 48 ++ digitsL (n % p10 s).toNat))

theorem below_nil {w w' : World} {B : Nat} (h : w.grownBy w' none) (hw : B ≤ w.heap.size) : Below B w w' :=
  ⟨h.os, h.tape, h.output, h.size, fun b hb => h.block b (by omega) (by simp)⟩

/-- A row's cells, at another row's growing. -/
theorem news_grown {w w' : World} {g g' : Nat} {vs : List Value} (h : w.grownBy w' (some g)) (hne : g' ≠ g) (hl : g' < w.heap.size) (hc : ∀ j u, vs[j]? = some u → w.cell? ((⟨g', 0, none⟩ : Addr).add j) = some u) :
    ∀ j u, vs[j]? = some u → w'.cell? ((⟨g', 0, none⟩ : Addr).add j) = some u := by
  intro j u hj
  have hb : ((⟨g', 0, none⟩ : Addr).add j).block = g' := by
    by_cases h0 : j = 0 <;> simp [Addr.add, h0]
  rw [World.cell?_of_block (h.block _ (by rw [hb]; exact hl) (by rw [hb]; simpa using hne))]
  exact hc j u hj
theorem news_alloc {w : World} {g' : Nat} {vs : List Value} (o : Obj) (hl : g' < w.heap.size) (hc : ∀ j u, vs[j]? = some u → w.cell? ((⟨g', 0, none⟩ : Addr).add j) = some u) :
    ∀ j u, vs[j]? = some u → (w.alloc o).cell? ((⟨g', 0, none⟩ : Addr).add j) = some u := by
  intro j u hj
  have hb : ((⟨g', 0, none⟩ : Addr).add j).block = g' := by
    by_cases h0 : j = 0 <;> simp [Addr.add, h0]
  rw [(bl_a (w := w) o).cell (by rw [hb]; exact hl)]
  exact hc j u hj

theorem far {gx g6 g5 H nx cx : Nat} (h : (Value.slice (some ⟨gx, 0, none⟩) nx cx).ownBlock = some g6 ∨ g6 = H) (hne : gx ≠ g5) (hl : g5 < H) : g6 ≠ g5 := by
  rcases h with h | h
  · have : gx = g6 := by simpa [Value.ownBlock] using h
    omega
  · omega

end Go.Proofs.YtdcaicoomldmgaaGreatDoor

/- ShwG -/
namespace Go.Proofs.YtdcaicoomldmgaaGreatDoor
open Go.RowKit Go.Deep
set_option maxRecDepth 100000

/-- append of bytes to a row of bytes of the call's own (or to none as yet): the row, and what is left of what was there. -/
theorem app8 {ops : Array Oper} {rest : List Oper} {o : Oper} {a : Act} {Q : Exit → Act → World → Prop} {w : World} (hgd : o.guard = none) (s x : Operand)
    (ho : o.op = .call { callee := .builtin .append, args := #[s, x], argTypes := #[45, 45] })
    (B : Nat) (v : Value) (n : Nat) (us : List Int) (hs : a.eval s = v) (HO : Hid (w.ownsRow B 5 1 v n (us.map (Value.int .u8))))
    (ad : Addr) (m c : Nat) (bs : List Int) (hx : a.eval x = .slice (some ad) m c) (hl : bs.length = m) (HN : Hid (∀ j u, (bs.map (Value.int .u8))[j]? = some u → w.cell? (ad.add j) = some u))
    (hm : 0 < m) (N : Nat) (hN : n + m = N) (zs : List Int) (hz : us ++ bs = zs) (hle : N ≤ 1000000000) (hB : B ≤ w.heap.size)
    (h : ∀ g cap w', Hid (Row8 w' B g N cap zs) → Hid (w.grownBy w' v.ownBlock) → Hid (v.ownBlock = some g ∨ g = w.heap.size) → Hid (Below B w w') → wpList Tryz.prog ops Q rest (a.put o.dst (.slice (some ⟨g, 0, none⟩) N cap)) w') :
    wpList Tryz.prog ops Q (o :: rest) a w := by
  obtain ⟨i0, hi0, hzz⟩ := Option.map_eq_some_iff.1 Tryz.info5
  simp only [Prod.mk.injEq] at hzz
  obtain ⟨hi2, hi1, hi3⟩ := hzz
  subst hN hz
  refine wpList_append_lies _ hgd s x 45 ho B 5 i0 (.int .u8 0) 1 1 Tryz.underlying45 hi0 hi2 hi1 hi3 rfl (by omega) v n (us.map (Value.int .u8)) hs HO.out ad m c (bs.map (Value.int .u8)) hx (by simp [hl]) HN.out (oneCell_map bs) hm (by unfold maxLen; omega) (by omega) hB _ rfl ?_
  intro g cap w' hown hgr hat hlt
  refine h g cap w' (Row8.grown hown rfl hlt) hgr hat ?_
  rcases HO.out.2 with ⟨hv, _⟩ | ⟨g0, c0, cur, hv, hb, _⟩
  · subst hv
    exact below_nil hgr hB
  · subst hv
    exact grown_below (g := g0) hgr hb hB

theorem Row8.own {w : World} {B g n cap : Nat} {bs : List Int} (h : Row8 w B g n cap bs) : Hid (w.ownsRow B 5 1 (.slice (some ⟨g, 0, none⟩) n cap) n (bs.map (Value.int .u8))) := h.1
theorem Row8.len {w : World} {B g n cap : Nat} {bs : List Int} (h : Row8 w B g n cap bs) : bs.length = n := by simpa using h.1.1
/-- Where a row that has grown lies: elsewhere than one that is not its own. -/
theorem away {v : Value} {g g' H : Nat} (h : v.ownBlock = some g ∨ g = H) (hv : v.ownBlock ≠ some g') (hl : g' < H) : g ≠ g' := by
  rcases h with h | h
  · intro e; subst e; exact hv h
  · omega
/-- A row's cells, at another row's growing. -/
theorem news_past {w w' : World} {v : Value} {g' : Nat} {vs : List Value} (h : w.grownBy w' v.ownBlock) (hne : v.ownBlock ≠ some g') (hl : g' < w.heap.size) (hc : ∀ j u, vs[j]? = some u → w.cell? ((⟨g', 0, none⟩ : Addr).add j) = some u) :
    ∀ j u, vs[j]? = some u → w'.cell? ((⟨g', 0, none⟩ : Addr).add j) = some u := by
  intro j u hj
  have hb : ((⟨g', 0, none⟩ : Addr).add j).block = g' := by
    by_cases h0 : j = 0 <;> simp [Addr.add, h0]
  rw [World.cell?_of_block (h.block _ (by rw [hb]; exact hl) (by rw [hb]; exact fun e => hne e.symm))]
  exact hc j u hj
theorem own_ne {g g' n c : Nat} (h : g ≠ g') : (Value.slice (some ⟨g, 0, none⟩) n c).ownBlock ≠ some g' := by simpa [Value.ownBlock] using h

end Go.Proofs.YtdcaicoomldmgaaGreatDoor
