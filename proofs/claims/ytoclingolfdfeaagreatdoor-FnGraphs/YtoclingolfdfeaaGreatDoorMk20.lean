/- Texts put together: GdrJ -/
import Derived.Test.YtoclingolfdfeaaGreatDoorMk19
/- GdrJ -/
namespace Go.Proofs.YtoclingolfdfeaaGreatDoor
open Go.RowKit Go.Deep
set_option maxRecDepth 100000

/-- What is known within l2bent: the graph's box p, the result's box, the row. -/
structure BST (g : Nat) (a : Option Addr) (len cap : Nat) (w w' : World) (p : Nat) (v : Value) (l : List G1) : Prop where
  own : OwnG w' (w.heap.size + 1) v l
  gy : ∀ y ∈ l, GY w' (w.heap.size + 1) y
  box : w'.cell? ⟨p, 0, none⟩ = some v
  fz : w'.frozen? ⟨p, 0, none⟩ = false
  lt : p < w'.heap.size
  pr : w.heap.size < p
  r1 : w'.cell? ⟨w.heap.size, 0, none⟩ = some (.slice none 0 0)
  r2 : w'.frozen? ⟨w.heap.size, 0, none⟩ = false
  past : Past g w w'
  cur : Cur w' g a len cap
  c0 : Cur w g a len cap
theorem BST.step {g : Nat} {a : Option Addr} {len cap : Nat} {w w' w'' : World} {p : Nat} {v : Value} {l : List G1} (h : BST g a len cap w w' p v l) (hp : Past g w' w'') (hc : Cur w'' g a len cap) : BST g a len cap w w'' p v l := by
  have hg := h.c0.lt
  have h1 := h.lt
  have h2 := h.pr
  exact ⟨h.own.past hp (by omega), fun y hy => (h.gy y hy).past hp (by omega), (hp.cell (p := ⟨p, 0, none⟩) h1 (by show p ≠ g; omega)).trans h.box, (hp.frozen (p := ⟨p, 0, none⟩) h1 (by show p ≠ g; omega)).trans h.fz, Nat.lt_of_lt_of_le h1 hp.size, h2,
    (hp.cell (p := ⟨w.heap.size, 0, none⟩) (by show w.heap.size < _; omega) (by show w.heap.size ≠ g; omega)).trans h.r1, (hp.frozen (p := ⟨w.heap.size, 0, none⟩) (by show w.heap.size < _; omega) (by show w.heap.size ≠ g; omega)).trans h.r2, h.past.trans hp, hc, h.c0⟩
theorem BST.fin {g : Nat} {a : Option Addr} {len cap : Nat} {w w' : World} {p : Nat} {v : Value} {l : List G1} (h : BST g a len cap w w' p v l) (hl : l.length ≤ 61) : BentG g a len cap w (.returned (.agg #[v])) (w'.setCell ⟨w.heap.size, 0, none⟩ v) := by
  have hQ : Past w.heap.size w' (w'.setCell ⟨w.heap.size, 0, none⟩ v) := (Past.refl w.heap.size w').set 0 _
  have hg := h.c0.lt
  exact ⟨v, l, rfl, (h.own.past hQ (by omega)).base (by omega), hl, fun y hy => ((h.gy y hy).past hQ (by omega)).mono (by omega), past_other h.past hQ (by omega), h.c0.glue h.cur (past_other h.past hQ (by omega)) (hQ.block g h.cur.lt (by omega))⟩
/-- behind append and the store into the box. -/
theorem BST.app {g : Nat} {a : Option Addr} {len cap : Nat} {w wr w9 : World} {p q n cv q9 N c9 : Nat} {x : G1} {r zs : List G1} {o : Obj} (h : BST g a len cap w wr p (.slice (some ⟨q, 0, none⟩) n cv) (x :: r)) (hg : (wr.drew.alloc o).grownBy w9 (some q)) (hO : OwnG w9 (w.heap.size + 1) (.slice (some ⟨q9, 0, none⟩) N c9) zs) (hz : ∀ y ∈ zs, y ∈ x :: r) (hne : zs ≠ []) :
    (w9.cell? ⟨p, 0, none⟩ = some (.slice (some ⟨q, 0, none⟩) n cv) ∧ w9.frozen? ⟨p, 0, none⟩ = false) ∧ BST g a len cap w (w9.setCell ⟨p, 0, none⟩ (.slice (some ⟨q9, 0, none⟩) N c9)) p (.slice (some ⟨q9, 0, none⟩) N c9) zs := by
  have hgl := h.c0.lt
  have hpr := h.pr
  have hlt := h.lt
  have hqB := h.own.2 q rfl
  have hqp : p ≠ q := fun e => h.own.ne_box h.box (by rw [e]; rfl)
  have hq0 : wr.cell? ⟨q, 0, none⟩ = some (.int .i64 x.t.k) := by
    rcases h.own.form with ⟨e, _⟩ | ⟨q', c', e, _, _, _, h3⟩
    · cases e
    · cases e
      exact h3 0 _ rfl
  have hb : Below wr.heap.size wr (wr.drew.alloc o) := bl_trans (Below.drew (Below.refl _ _)) (bl_a o)
  have hP : Past q wr w9 := (Past.of_below hb).trans ⟨hg.os, hg.tape, hg.output, hg.size, fun b h1 h2 => hg.block b h1 (fun e => h2 (Option.some.inj e))⟩
  have z0 : w9.cell? ⟨p, 0, none⟩ = some (.slice (some ⟨q, 0, none⟩) n cv) := (hP.cell (p := ⟨p, 0, none⟩) hlt hqp).trans h.box
  have z1 : w9.frozen? ⟨p, 0, none⟩ = false := (hP.frozen (p := ⟨p, 0, none⟩) hlt hqp).trans h.fz
  have hQ : Past p w9 (w9.setCell ⟨p, 0, none⟩ (.slice (some ⟨q9, 0, none⟩) N c9)) := (Past.refl p w9).set 0 _
  have hs := hP.size
  have hPg : Past g w w9 := past_other h.past hP (by omega)
  have hPg' : Past g w (w9.setCell ⟨p, 0, none⟩ (.slice (some ⟨q9, 0, none⟩) N c9)) := past_other hPg hQ (by omega)
  refine ⟨⟨z0, z1⟩, ?_⟩
  refine ⟨?_, fun y hy => ((h.gy y (hz y hy)).pastNe hP hq0 (fun _ e => by cases e)).pastNe hQ z0 (fun _ e => by cases e), set_same z0, by rw [World.frozen?_setCell]; exact z1, Nat.lt_of_lt_of_le hlt (Nat.le_trans hs hQ.size), hpr, ?_, ?_, hPg', ?_, h.c0⟩
  · cases zs with
    | nil => exact absurd rfl hne
    | cons y ys => exact hO.pastNe hQ (hO.ne_box z0)
  · exact (hQ.cell (p := ⟨w.heap.size, 0, none⟩) (by show w.heap.size < _; omega) (by show w.heap.size ≠ p; omega)).trans ((hP.cell (p := ⟨w.heap.size, 0, none⟩) (by show w.heap.size < _; omega) (by show w.heap.size ≠ q; omega)).trans h.r1)
  · exact (hQ.frozen (p := ⟨w.heap.size, 0, none⟩) (by show w.heap.size < _; omega) (by show w.heap.size ≠ p; omega)).trans ((hP.frozen (p := ⟨w.heap.size, 0, none⟩) (by show w.heap.size < _; omega) (by show w.heap.size ≠ q; omega)).trans h.r2)
  · exact h.c0.glue h.cur hPg' ((hQ.block g (by omega) (by omega)).trans (hP.block g (by omega) (by omega)))
end Go.Proofs.YtoclingolfdfeaaGreatDoor
