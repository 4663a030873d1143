/- Texts put together: StqJ -/
import Derived.Test.YtdcaicoomldmgaaGreatDoorMk38
import Derived.Deep.Cut
/- StqJ -/
namespace Go.Proofs.YtdcaicoomldmgaaGreatDoor
open Go.RowKit Go.Deep
set_option maxRecDepth 100000

theorem inG1 {n k : Nat} {T U V : Nat → Tm} {bt bu bv : Nat → List Int} (h : k < n) : InG n T U V bt bu bv ⟨T k, bt k⟩ := ⟨k, h, .inl rfl⟩
theorem inG2 {n k : Nat} {T U V : Nat → Tm} {bt bu bv : Nat → List Int} (h : k < n) : InG n T U V bt bu bv ⟨U k, bu k⟩ := ⟨k, h, .inr (.inl rfl)⟩
theorem inG3 {n k : Nat} {T U V : Nat → Tm} {bt bu bv : Nat → List Int} (h : k < n) : InG n T U V bt bu bv ⟨V k, bv k⟩ := ⟨k, h, .inr (.inr rfl)⟩
/-- Three more terms are held. -/
theorem Held.three {w w' : World} {B n k : Nat} {T U V : Nat → Tm} {bt bu bv : Nat → List Int} {v v3 : Value} {l l1 l2 l3 : List TB} (h : Held w B n T U V bt bu bv k v l) (hk : k < n)
    (m1 : ∀ p, p ∈ l1.map TB.td ↔ p = (TB.mk (T k) (bt k)).td ∨ p ∈ l.map TB.td) (i1 : ∀ y ∈ l1, y = ⟨T k, bt k⟩ ∨ y ∈ l) (n1 : l1.length ≤ l.length + 1)
    (m2 : ∀ p, p ∈ l2.map TB.td ↔ p = (TB.mk (U k) (bu k)).td ∨ p ∈ l1.map TB.td) (i2 : ∀ y ∈ l2, y = ⟨U k, bu k⟩ ∨ y ∈ l1) (n2 : l2.length ≤ l1.length + 1)
    (m3 : ∀ p, p ∈ l3.map TB.td ↔ p = (TB.mk (V k) (bv k)).td ∨ p ∈ l2.map TB.td) (i3 : ∀ y ∈ l3, y = ⟨V k, bv k⟩ ∨ y ∈ l2) (n3 : l3.length ≤ l2.length + 1)
    (o3 : OwnTR w' B v3 l3) (a3 : (l3.map TB.td).Pairwise (fun p q => p.cmp q < 0)) (e3 : l3 ≠ []) : Held w' B n T U V bt bu bv (k + 1) v3 l3 := by
  refine ⟨o3, a3, fun p => ?_, fun y hy => ?_, by have := h.len; omega, fun e => absurd e e3⟩
  · rw [m3, m2, m1, h.mem, allT_succ]
    simp only [List.mem_append, List.mem_cons, List.not_mem_nil, or_false]
    constructor
    · rintro (h | h | h | h) <;> simp [h]
    · rintro (h | h | h | h) <;> simp [h]
  · rcases i3 y hy with rfl | hy
    · exact inG3 hk
    rcases i2 y hy with rfl | hy
    · exact inG2 hk
    rcases i1 y hy with rfl | hy
    · exact inG1 hk
    · exact h.ing y hy

theorem OwnTR.kept {w w' : World} {B p : Nat} {v : Value} {l : List TB} (h : OwnTR w B v l) (hk : Kept p none w w') (hp : p < B) : OwnTR w' B v l := by
  obtain ⟨⟨h1, h2⟩, hl⟩ := h
  refine ⟨⟨h1, ?_⟩, fun g hg => ⟨(hl g hg).1, Nat.lt_of_lt_of_le (hl g hg).2 hk.size⟩⟩
  rcases h2 with h2 | ⟨g', cap', cur, hv, hB, hh, r⟩
  · exact .inl h2
  · refine .inr ⟨g', cap', cur, hv, hB, ?_, r⟩
    rw [hk.block g' (hl g' (by rw [hv]; rfl)).2 (by omega) (by simp)]
    exact hh
theorem mid_row {l : List (Int × Int × Int)} {x : Int × Int × Int} {i j : Nat} (hl : l.length = i) (hj : j ≤ i) : (l.take j ++ x :: l.drop j)[j]? = some x := by
  rw [List.getElem?_append_right (by simp; omega)]
  have e : j - (l.take j).length = 0 := by simp; omega
  rw [e]
  rfl

/-- What l3store answers. -/
def L3Store (w : World) (n : Nat) (T U V : Nat → Tm) (bt bu bv : Nat → List Int) (e : Ending) (w' : World) : Prop :=
  ∃ aT capT aR capR r rbs, e = .returned (.agg #[.slice aT r.length capT, .slice aR 6 capR]) ∧ TRow w' aT r ∧ TTxt w' r ∧ TermsOf (allT T U V bt bu bv n) (r.map TB.td) ∧ r.length ≤ 3 * n ∧ rbs.length = 6 ∧ SRow w' aR rbs ∧
    (∀ i x, rbs[i]? = some x → RRow w' x.a x.l ∧ RowsOf i (gRows (r.map TB.td) T U V bt bu bv n) x.l) ∧ Below w.heap.size w w'

theorem cell_drewG {w : World} : Below w.heap.size w w.drew := Below.drew (Below.refl _ _)
set_option maxHeartbeats 32000000 in
theorem l3store_any (a : Option Addr) (n cap : Nat) (T U V : Nat → Tm) (bt bu bv : Nat → List Int) (w : World) (hn : n ≤ 60) (hR : Rows w a n T U V) (hn0 : n ≠ 0) (hg : ∀ y, InG n T U V bt bu bv y → y.good ∧ Bs w y.t.a y.t.len y.b) :
    Calls Tryz.prog 35 #[.agg #[.slice a n cap]] w (L3Store w n T U V bt bu bv) := by
  obtain ⟨b, off, rfl, hlt, hc⟩ := hR.resolve_left hn0
  have HC : Hid (∀ i, i < n → Row12 w b (off + i * 12) (T i) (U i) (V i)) := hc
  have HGD : Hid (∀ y, InG n T U V bt bu bv y → y.good ∧ Bs w y.t.a y.t.len y.b) := hg
  have HX : Hid (∀ wr, Below (w.heap.size + 1 + 1) (((w.alloc (.cells #[.slice (some ⟨b, off, none⟩) n cap] 34)).alloc (.cells #[.slice none 0 0, .slice none 0 0] 29)).alloc (.cells #[.slice none 0 0, .slice none 0 0] 29)) wr → wr.cell? ⟨w.heap.size, 0, none⟩ = some (.slice (some ⟨b, off, none⟩) n cap)) := fun wr h => (h.cell (p := ⟨w.heap.size, 0, none⟩) (show w.heap.size < w.heap.size + 1 + 1 by omega)).trans (by simp [go_sem])
  have HW : Hid (∀ wr, Below (w.heap.size + 1 + 1) (((w.alloc (.cells #[.slice (some ⟨b, off, none⟩) n cap] 34)).alloc (.cells #[.slice none 0 0, .slice none 0 0] 29)).alloc (.cells #[.slice none 0 0, .slice none 0 0] 29)) wr → Below w.heap.size w wr) := fun wr h => (bl_alloc (bl_alloc (bl_a (w := w) _) _) _).trans (h.mono (by omega))
  clear hR hc hg
  go_enter Tryz.func35, Tryz.ntmps35
  go_wp2_with fail
  go_loopw [4] (fun i wr => ∃ (k : Nat) (v : Value) (l : List TB), k ≤ n ∧ i = .int .i64 k ∧ Hid (wr.cell? ⟨(w.heap.size + 1 + 1), 0, none⟩ = some v ∧ wr.cell? ⟨(w.heap.size + 1 + 1), 1, none⟩ = some (.slice none 0 0) ∧ wr.frozen? ⟨(w.heap.size + 1 + 1), 0, none⟩ = false ∧ wr.frozen? ⟨(w.heap.size + 1 + 1), 1, none⟩ = false ∧ (w.heap.size + 1 + 1 + 1) ≤ wr.heap.size) ∧ Hid (Held wr (w.heap.size + 1 + 1 + 1) n T U V bt bu bv k v l) ∧ Hid (Below (w.heap.size + 1 + 1) (((w.alloc (.cells #[.slice (some ⟨b, off, none⟩) n cap] 34)).alloc (.cells #[.slice none 0 0, .slice none 0 0] 29)).alloc (.cells #[.slice none 0 0, .slice none 0 0] 29)) wr))
    (fun i _ => n - (intOf i).toNat)
  case atStart => exact ⟨0, .slice none 0 0, [], Nat.zero_le _, rfl, ⟨by simp [go_sem], by simp [go_sem], by simp [go_sem], by simp [go_sem], by simp⟩, ⟨OwnTR.nil _ _, List.Pairwise.nil, fun p => by simp [allT], fun y hy => (by cases hy), by simp, fun _ => rfl⟩, Below.refl _ _⟩
  case round =>
    obtain ⟨k, v, l, hk, rfl, HS, HH, HB⟩ := hrel
    have hbox := HX.out wr HB.out
    by_cases hlk : k < n
    · have hx := (HC.out k hlk).of_block ((HW.out wr HB.out).block b hlt)
      obtain ⟨⟨x0, x1, x2, x3⟩, ⟨x4, x5, x6, x7⟩, ⟨x8, x9, xa, xb⟩⟩ := id hx
      obtain ⟨s0, s1, s2, s3, s4⟩ := id HS.out
      have hl60 : l.length ≤ 200 := by have := HH.out.len; omega
      have hKK : Hid (∀ (w1 : World), Below (w.heap.size + 1 + 1) wr w1 → w1.cell? ⟨w.heap.size, 0, none⟩ = some (.slice (some ⟨b, off, none⟩) n cap) ∧ w1.cell? ⟨b, off + k * 12, none⟩ = some (.int .i64 (T k).k) ∧ w1.cell? ⟨b, off + k * 12 + 1, none⟩ = some (.slice (T k).a (T k).len (T k).cap) ∧ w1.cell? ⟨b, off + k * 12 + 2, none⟩ = some (.int .i64 (T k).n) ∧ w1.cell? ⟨b, off + k * 12 + 3, none⟩ = some (.int .i64 (T k).s) ∧ w1.cell? ⟨b, off + k * 12 + 4, none⟩ = some (.int .i64 (U k).k) ∧ w1.cell? ⟨b, off + k * 12 + 5, none⟩ = some (.slice (U k).a (U k).len (U k).cap) ∧ w1.cell? ⟨b, off + k * 12 + 6, none⟩ = some (.int .i64 (U k).n) ∧ w1.cell? ⟨b, off + k * 12 + 7, none⟩ = some (.int .i64 (U k).s) ∧ w1.cell? ⟨b, off + k * 12 + 8, none⟩ = some (.int .i64 (V k).k) ∧ w1.cell? ⟨b, off + k * 12 + 9, none⟩ = some (.slice (V k).a (V k).len (V k).cap) ∧ w1.cell? ⟨b, off + k * 12 + 10, none⟩ = some (.int .i64 (V k).n) ∧ w1.cell? ⟨b, off + k * 12 + 11, none⟩ = some (.int .i64 (V k).s)) := by
        intro w1 hb1
        have hxx := hx.of_block (hb1.block b (by omega))
        obtain ⟨⟨x0, x1, x2, x3⟩, ⟨x4, x5, x6, x7⟩, ⟨x8, x9, xa, xb⟩⟩ := hxx
        exact ⟨(hb1.cell (p := ⟨w.heap.size, 0, none⟩) (show w.heap.size < w.heap.size + 1 + 1 by omega)).trans hbox, x0, x1, x2, x3, x4, x5, x6, x7, x8, x9, xa, xb⟩
      go_wp2_with fail
      refine wp_region_held_drew (S := (fun w' => w'.cell? ⟨w.heap.size, 0, none⟩ = some (.slice (some ⟨b, off, none⟩) n cap) ∧ w'.cell? ⟨b, off + k * 12, none⟩ = some (.int .i64 (T k).k) ∧ w'.cell? ⟨b, off + k * 12 + 1, none⟩ = some (.slice (T k).a (T k).len (T k).cap) ∧ w'.cell? ⟨b, off + k * 12 + 2, none⟩ = some (.int .i64 (T k).n) ∧ w'.cell? ⟨b, off + k * 12 + 3, none⟩ = some (.int .i64 (T k).s) ∧ w'.cell? ⟨b, off + k * 12 + 4, none⟩ = some (.int .i64 (U k).k) ∧ w'.cell? ⟨b, off + k * 12 + 5, none⟩ = some (.slice (U k).a (U k).len (U k).cap) ∧ w'.cell? ⟨b, off + k * 12 + 6, none⟩ = some (.int .i64 (U k).n) ∧ w'.cell? ⟨b, off + k * 12 + 7, none⟩ = some (.int .i64 (U k).s) ∧ w'.cell? ⟨b, off + k * 12 + 8, none⟩ = some (.int .i64 (V k).k) ∧ w'.cell? ⟨b, off + k * 12 + 9, none⟩ = some (.slice (V k).a (V k).len (V k).cap) ∧ w'.cell? ⟨b, off + k * 12 + 10, none⟩ = some (.int .i64 (V k).n) ∧ w'.cell? ⟨b, off + k * 12 + 11, none⟩ = some (.int .i64 (V k).s))) (by kernel_rfl) ?_ (fun hHeld => ?_)
      · (refine hKK.out _ ?_; (repeat (first | with_reducible exact Hid.out (by assumption) | with_reducible assumption | with_reducible exact Below.refl _ _ | with_reducible apply Below.drew | with_reducible apply below_drewN | with_reducible refine Below.setCell ?_ (by dsimp only; omega) _)))
      refine take_at (i := 0) 18 (v := ?v1) rfl rfl (by kernel_rfl) (by kernel_rfl) (by kernel_rfl) (fun _ _ _ h => h) (Or.inl ⟨by rfl, ?y1⟩) (by assumption) ?r1
      case y1 => (intro w hSw; (try dsimp only at hSw); go_simp; (try with_reducible rfl))
      simp only [Act.put, List.setIfInBounds_toArray, List.set_cons_zero, List.set_cons_succ]
      refine take_at (i := 2) 20 (v := ?v2) rfl rfl (by kernel_rfl) (by kernel_rfl) (by kernel_rfl) (fun _ _ _ h => h) (Or.inl ⟨by rfl, ?y2⟩) (by assumption) ?r2
      case y2 => (intro w hSw; (try dsimp only at hSw); go_simp; (try with_reducible rfl))
      simp only [Act.put, List.setIfInBounds_toArray, List.set_cons_zero, List.set_cons_succ]
      refine take_at (i := 3) 21 (v := ?v3) rfl rfl (by kernel_rfl) (by kernel_rfl) (by kernel_rfl) (fun _ _ _ h => h) (Or.inl ⟨by rfl, ?y3⟩) (by assumption) ?r3
      case y3 => (intro w hSw; (try dsimp only at hSw); go_simp; (try with_reducible rfl))
      simp only [Act.put, List.setIfInBounds_toArray, List.set_cons_zero, List.set_cons_succ]
      refine take_at (i := 4) 22 (v := ?v4) rfl rfl (by kernel_rfl) (by kernel_rfl) (by kernel_rfl) (fun _ _ _ h => h) (Or.inl ⟨by rfl, ?y4⟩) (by assumption) ?r4
      case y4 => (intro w hSw; (try dsimp only at hSw); go_simp; (try with_reducible rfl))
      simp only [Act.put, List.setIfInBounds_toArray, List.set_cons_zero, List.set_cons_succ]
      refine take_at (i := 5) 23 (v := ?v5) rfl rfl (by kernel_rfl) (by kernel_rfl) (by kernel_rfl) (fun _ _ _ h => h) (Or.inl ⟨by rfl, ?y5⟩) (by assumption) ?r5
      case y5 => (intro w hSw; (try dsimp only at hSw); go_simp; (try with_reducible rfl))
      simp only [Act.put, List.setIfInBounds_toArray, List.set_cons_zero, List.set_cons_succ]
      refine take_at (i := 6) 24 (v := ?v6) rfl rfl (by kernel_rfl) (by kernel_rfl) (by kernel_rfl) (fun _ _ _ h => h) (Or.inl ⟨by rfl, ?y6⟩) (by assumption) ?r6
      case y6 => (intro w hSw; (try dsimp only at hSw); go_simp; (try with_reducible rfl))
      simp only [Act.put, List.setIfInBounds_toArray, List.set_cons_zero, List.set_cons_succ]
      refine take_at (i := 7) 25 (v := ?v7) rfl rfl (by kernel_rfl) (by kernel_rfl) (by kernel_rfl) (fun _ _ _ h => h) (Or.inl ⟨by rfl, ?y7⟩) (by assumption) ?r7
      case y7 => (intro w hSw; (try dsimp only at hSw); go_simp; (try with_reducible rfl))
      simp only [Act.put, List.setIfInBounds_toArray, List.set_cons_zero, List.set_cons_succ]
      refine take_at (i := 9) 27 (v := ?v8) rfl rfl (by kernel_rfl) (by kernel_rfl) (by kernel_rfl) (fun _ _ _ h => h) (Or.inl ⟨by rfl, ?y8⟩) (by assumption) ?r8
      case y8 => (intro w hSw; (try dsimp only at hSw); go_simp; (try with_reducible rfl))
      simp only [Act.put, List.setIfInBounds_toArray, List.set_cons_zero, List.set_cons_succ]
      refine take_at (i := 10) 28 (v := ?v9) rfl rfl (by kernel_rfl) (by kernel_rfl) (by kernel_rfl) (fun _ _ _ h => h) (Or.inl ⟨by rfl, ?y9⟩) (by assumption) ?r9
      case y9 => (intro w hSw; (try dsimp only at hSw); go_simp; (try with_reducible rfl))
      simp only [Act.put, List.setIfInBounds_toArray, List.set_cons_zero, List.set_cons_succ]
      refine take_at (i := 11) 29 (v := ?v10) rfl rfl (by kernel_rfl) (by kernel_rfl) (by kernel_rfl) (fun _ _ _ h => h) (Or.inl ⟨by rfl, ?y10⟩) (by assumption) ?r10
      case y10 => (intro w hSw; (try dsimp only at hSw); go_simp; (try with_reducible rfl))
      simp only [Act.put, List.setIfInBounds_toArray, List.set_cons_zero, List.set_cons_succ]
      refine take_at (i := 12) 30 (v := ?v11) rfl rfl (by kernel_rfl) (by kernel_rfl) (by kernel_rfl) (fun _ _ _ h => h) (Or.inl ⟨by rfl, ?y11⟩) (by assumption) ?r11
      case y11 => (intro w hSw; (try dsimp only at hSw); go_simp; (try with_reducible rfl))
      simp only [Act.put, List.setIfInBounds_toArray, List.set_cons_zero, List.set_cons_succ]
      refine take_at (i := 13) 31 (v := ?v12) rfl rfl (by kernel_rfl) (by kernel_rfl) (by kernel_rfl) (fun _ _ _ h => h) (Or.inl ⟨by rfl, ?y12⟩) (by assumption) ?r12
      case y12 => (intro w hSw; (try dsimp only at hSw); go_simp; (try with_reducible rfl))
      simp only [Act.put, List.setIfInBounds_toArray, List.set_cons_zero, List.set_cons_succ]
      refine take_at (i := 14) 32 (v := ?v13) rfl rfl (by kernel_rfl) (by kernel_rfl) (by kernel_rfl) (fun _ _ _ h => h) (Or.inl ⟨by rfl, ?y13⟩) (by assumption) ?r13
      case y13 => (intro w hSw; (try dsimp only at hSw); go_simp; (try with_reducible rfl))
      simp only [Act.put, List.setIfInBounds_toArray, List.set_cons_zero, List.set_cons_succ]
      refine take_at (i := 16) 34 (v := ?v14) rfl rfl (by kernel_rfl) (by kernel_rfl) (by kernel_rfl) (fun _ _ _ h => h) (Or.inl ⟨by rfl, ?y14⟩) (by assumption) ?r14
      case y14 => (intro w hSw; (try dsimp only at hSw); go_simp; (try with_reducible rfl))
      simp only [Act.put, List.setIfInBounds_toArray, List.set_cons_zero, List.set_cons_succ]
      refine take_at (i := 17) 35 (v := ?v15) rfl rfl (by kernel_rfl) (by kernel_rfl) (by kernel_rfl) (fun _ _ _ h => h) (Or.inl ⟨by rfl, ?y15⟩) (by assumption) ?r15
      case y15 => (intro w hSw; (try dsimp only at hSw); go_simp; (try with_reducible rfl))
      simp only [Act.put, List.setIfInBounds_toArray, List.set_cons_zero, List.set_cons_succ]
      refine take_at (i := 18) 36 (v := ?v16) rfl rfl (by kernel_rfl) (by kernel_rfl) (by kernel_rfl) (fun _ _ _ h => h) (Or.inl ⟨by rfl, ?y16⟩) (by assumption) ?r16
      case y16 => (intro w hSw; (try dsimp only at hSw); go_simp; (try with_reducible rfl))
      simp only [Act.put, List.setIfInBounds_toArray, List.set_cons_zero, List.set_cons_succ]
      refine take_at (i := 19) 37 (v := ?v17) rfl rfl (by kernel_rfl) (by kernel_rfl) (by kernel_rfl) (fun _ _ _ h => h) (Or.inl ⟨by rfl, ?y17⟩) (by assumption) ?r17
      case y17 => (intro w hSw; (try dsimp only at hSw); go_simp; (try with_reducible rfl))
      simp only [Act.put, List.setIfInBounds_toArray, List.set_cons_zero, List.set_cons_succ]
      refine take_at (i := 20) 38 (v := ?v18) rfl rfl (by kernel_rfl) (by kernel_rfl) (by kernel_rfl) (fun _ _ _ h => h) (Or.inl ⟨by rfl, ?y18⟩) (by assumption) ?r18
      case y18 => (intro w hSw; (try dsimp only at hSw); go_simp; (try with_reducible rfl))
      simp only [Act.put, List.setIfInBounds_toArray, List.set_cons_zero, List.set_cons_succ]
      refine take_at (i := 21) 39 (v := ?v19) rfl rfl (by kernel_rfl) (by kernel_rfl) (by kernel_rfl) (fun _ _ _ h => h) (Or.inl ⟨by rfl, ?y19⟩) (by assumption) ?r19
      case y19 => (intro w hSw; (try dsimp only at hSw); go_simp; (try with_reducible rfl))
      simp only [Act.put, List.setIfInBounds_toArray, List.set_cons_zero, List.set_cons_succ]
      refine wpAnyH_ready (rs := [1]) (by kernel_rfl) (by simp) ?_
      refine AllReadyH.cons rfl (fun K hK => ?_) AllReadyH.nil
      go_simp
      refine hK.out _ _ ?_ (fun hHeld => ?_)
      · (refine hKK.out _ ?_; (repeat (first | with_reducible exact Hid.out (by assumption) | with_reducible assumption | with_reducible exact Below.refl _ _ | with_reducible apply Below.drew | with_reducible apply below_drewN | with_reducible refine Below.setCell ?_ (by dsimp only; omega) _)))
      clear hK K
      try simp only [Act.put, List.setIfInBounds_toArray, List.set_cons_zero, List.set_cons_succ]
      refine wpAnyH_ready (rs := [8]) (by kernel_rfl) (by simp) ?_
      refine AllReadyH.cons rfl (fun K hK => ?_) AllReadyH.nil
      go_simp
      refine (put_one (n := n) (T := T) (U := U) (V := V) (bt := bt) (bu := bu) (bv := bv) w _ (w.heap.size + 1 + 1 + 1) v l ⟨T k, bt k⟩ (by omega) (bl_trans (HW.out wr HB.out) cell_drewG) HGD.out (HH.out.own.below cell_drewG) s4 HH.out.ing HH.out.asc (inG1 hlk) HH.out.nil).mono ?_
      intro e p1 hP
      obtain ⟨v1, l1, rfl, o1, hb1, n1, a1, m1, i1, e1⟩ := hP.held
      have hd1 : Hid (Below wr.heap.size wr p1) := bl_trans cell_drewG hb1
      have HO1 : Hid (OwnTR p1 (w.heap.size + 1 + 1 + 1) v1 l1) := o1
      have HS1 : Hid ((l1.map TB.td).Pairwise (fun p q => p.cmp q < 0)) := a1
      have HM1 : Hid _ := m1
      have HI1 : Hid (∀ y ∈ l1, InG n T U V bt bu bv y) := fun y hy => (i1 y hy).elim (fun e => e ▸ inG1 hlk) (fun h => HH.out.ing y h)
      have HJ1 : Hid _ := i1
      have HNE1 : Hid (l1 ≠ []) := e1
      have hk1 : Hid (Below (w.heap.size + 1 + 1) wr p1) := hd1.out.mono (by omega)
      clear hP o1 hb1 a1 m1 i1 e1
      go_wp2_with fail
      refine hK.out _ _ ?_ (fun hHeld => ?_)
      · (refine hKK.out _ ?_; (repeat (first | with_reducible exact Hid.out (by assumption) | with_reducible assumption | with_reducible exact Below.refl _ _ | with_reducible apply Below.drew | with_reducible apply below_drewN | with_reducible refine Below.setCell ?_ (by dsimp only; omega) _)))
      clear hK K
      try simp only [Act.put, List.setIfInBounds_toArray, List.set_cons_zero, List.set_cons_succ]
      refine wpAnyH_ready (rs := [15]) (by kernel_rfl) (by simp) ?_
      refine AllReadyH.cons rfl (fun K hK => ?_) AllReadyH.nil
      go_simp
      refine (put_one (n := n) (T := T) (U := U) (V := V) (bt := bt) (bu := bu) (bv := bv) w _ (w.heap.size + 1 + 1 + 1) v1 l1 ⟨U k, bu k⟩ (by omega) (bl_trans (HW.out wr HB.out) hd1.out) HGD.out HO1.out (Nat.le_trans s4 hd1.out.size) HI1.out HS1.out (inG2 hlk) (fun e => absurd e HNE1.out)).mono ?_
      intro e p2 hP
      obtain ⟨v2, l2, rfl, o2, hb2, n2, a2, m2, i2, e2⟩ := hP.held
      have hd2 : Hid (Below wr.heap.size wr p2) := bl_trans hd1.out hb2
      have HO2 : Hid (OwnTR p2 (w.heap.size + 1 + 1 + 1) v2 l2) := o2
      have HS2 : Hid ((l2.map TB.td).Pairwise (fun p q => p.cmp q < 0)) := a2
      have HM2 : Hid _ := m2
      have HI2 : Hid (∀ y ∈ l2, InG n T U V bt bu bv y) := fun y hy => (i2 y hy).elim (fun e => e ▸ inG2 hlk) (fun h => HI1.out y h)
      have HJ2 : Hid _ := i2
      have HNE2 : Hid (l2 ≠ []) := e2
      have hk2 : Hid (Below (w.heap.size + 1 + 1) wr p2) := hd2.out.mono (by omega)
      clear hP o2 hb2 a2 m2 i2 e2
      go_wp2_with fail
      refine hK.out _ _ ?_ (fun hHeld => ?_)
      · (refine hKK.out _ ?_; (repeat (first | with_reducible exact Hid.out (by assumption) | with_reducible assumption | with_reducible exact Below.refl _ _ | with_reducible apply Below.drew | with_reducible apply below_drewN | with_reducible refine Below.setCell ?_ (by dsimp only; omega) _)))
      clear hK K
      try simp only [Act.put, List.setIfInBounds_toArray, List.set_cons_zero, List.set_cons_succ]
      refine wpAnyH_ready (rs := [22]) (by kernel_rfl) (by simp) ?_
      refine AllReadyH.cons rfl (fun K hK => ?_) AllReadyH.nil
      go_simp
      refine (put_one (n := n) (T := T) (U := U) (V := V) (bt := bt) (bu := bu) (bv := bv) w _ (w.heap.size + 1 + 1 + 1) v2 l2 ⟨V k, bv k⟩ (by omega) (bl_trans (HW.out wr HB.out) hd2.out) HGD.out HO2.out (Nat.le_trans s4 hd2.out.size) HI2.out HS2.out (inG3 hlk) (fun e => absurd e HNE2.out)).mono ?_
      intro e p3 hP
      obtain ⟨v3, l3, rfl, o3, hb3, n3, a3, m3, i3, e3⟩ := hP.held
      have hd3 : Hid (Below wr.heap.size wr p3) := bl_trans hd2.out hb3
      have HO3 : Hid (OwnTR p3 (w.heap.size + 1 + 1 + 1) v3 l3) := o3
      have HS3 : Hid ((l3.map TB.td).Pairwise (fun p q => p.cmp q < 0)) := a3
      have HM3 : Hid _ := m3
      have HI3 : Hid (∀ y ∈ l3, InG n T U V bt bu bv y) := fun y hy => (i3 y hy).elim (fun e => e ▸ inG3 hlk) (fun h => HI2.out y h)
      have HJ3 : Hid _ := i3
      have HNE3 : Hid (l3 ≠ []) := e3
      have hk3 : Hid (Below (w.heap.size + 1 + 1) wr p3) := hd3.out.mono (by omega)
      clear hP o3 hb3 a3 m3 i3 e3
      have q0 : p3.cell? ⟨(w.heap.size + 1 + 1), 0, none⟩ = some v := (hd3.out.cell (p := ⟨(w.heap.size + 1 + 1), 0, none⟩) (Nat.lt_of_lt_of_le (Nat.lt_succ_self _) s4)).trans s0
      have q1 : p3.frozen? ⟨(w.heap.size + 1 + 1), 0, none⟩ = false := (hd3.out.frozen (p := ⟨(w.heap.size + 1 + 1), 0, none⟩) (Nat.lt_of_lt_of_le (Nat.lt_succ_self _) s4)).trans s2
      obtain ⟨a3, c3, rfl, hz3⟩ := HO3.out.form
      clear hz3
      go_wp2_with fail
      refine hK.out _ _ ?_ (fun hHeld => ?_)
      · (refine hKK.out _ ?_; (repeat (first | with_reducible exact Hid.out (by assumption) | with_reducible assumption | with_reducible exact Below.refl _ _ | with_reducible apply Below.drew | with_reducible apply below_drewN | with_reducible refine Below.setCell ?_ (by dsimp only; omega) _)))
      clear hK K
      try simp only [Act.put, List.setIfInBounds_toArray, List.set_cons_zero, List.set_cons_succ]
      refine take_at (i := 23) 41 (v := ?v20) rfl rfl (by kernel_rfl) (by kernel_rfl) (by kernel_rfl) (fun _ _ _ h => h) (Or.inl ⟨by rfl, ?y20⟩) (by assumption) ?r20
      case y20 => (intro w hSw; (try dsimp only at hSw); go_simp; (try with_reducible rfl))
      simp only [Act.put, List.setIfInBounds_toArray, List.set_cons_zero, List.set_cons_succ]
      refine wpAnyH_ready (rs := [24]) (by kernel_rfl) (by simp) ?_
      refine AllReadyH.cons rfl (fun K hK => ?_) AllReadyH.nil
      go_simp
      refine hK.out _ _ ?_ (fun hHeld => ?_)
      · (refine hKK.out _ ?_; (repeat (first | with_reducible exact Hid.out (by assumption) | with_reducible assumption | with_reducible exact Below.refl _ _ | with_reducible apply Below.drew | with_reducible apply below_drewN | with_reducible refine Below.setCell ?_ (by dsimp only; omega) _)))
      clear hK K
      refine wpAnyH_done (by kernel_rfl) ?_ _
      have HD3 : Hid (But (w.heap.size + 1 + 1) p3 (p3.setCell ⟨(w.heap.size + 1 + 1), 0, none⟩ (.slice a3 l3.length c3))) := (But.refl _ _).set _ _
      have hbs : (w.heap.size + 1 + 1) < p3.heap.size := Nat.lt_of_lt_of_le (Nat.lt_of_lt_of_le (Nat.lt_succ_self _) s4) hd3.out.size
      have HS4 : Hid ((p3.setCell ⟨(w.heap.size + 1 + 1), 0, none⟩ (.slice a3 l3.length c3)).cell? ⟨(w.heap.size + 1 + 1), 0, none⟩ = some (.slice a3 l3.length c3) ∧ (p3.setCell ⟨(w.heap.size + 1 + 1), 0, none⟩ (.slice a3 l3.length c3)).cell? ⟨(w.heap.size + 1 + 1), 1, none⟩ = some (.slice none 0 0) ∧ (p3.setCell ⟨(w.heap.size + 1 + 1), 0, none⟩ (.slice a3 l3.length c3)).frozen? ⟨(w.heap.size + 1 + 1), 0, none⟩ = false ∧ (p3.setCell ⟨(w.heap.size + 1 + 1), 0, none⟩ (.slice a3 l3.length c3)).frozen? ⟨(w.heap.size + 1 + 1), 1, none⟩ = false ∧ (w.heap.size + 1 + 1 + 1) ≤ (p3.setCell ⟨(w.heap.size + 1 + 1), 0, none⟩ (.slice a3 l3.length c3)).heap.size) := by
        refine ⟨set_same q0, ?_, ?_, ?_, ?_⟩
        · rw [set_other (by omega)]
          exact (hd3.out.cell (p := ⟨(w.heap.size + 1 + 1), 1, none⟩) (Nat.lt_of_lt_of_le (Nat.lt_succ_self _) s4)).trans s1
        · rw [World.frozen?_setCell]; exact q1
        · rw [World.frozen?_setCell]
          exact (hd3.out.frozen (p := ⟨(w.heap.size + 1 + 1), 1, none⟩) (Nat.lt_of_lt_of_le (Nat.lt_succ_self _) s4)).trans s3
        · have := HD3.out.size
          rw [this]
          exact Nat.le_trans s4 hd3.out.size
      have HH4 : Hid (Held (p3.setCell ⟨(w.heap.size + 1 + 1), 0, none⟩ (.slice a3 l3.length c3)) (w.heap.size + 1 + 1 + 1) n T U V bt bu bv (k + 1) (.slice a3 l3.length c3) l3) := HH.out.three hlk HM1.out HJ1.out n1 HM2.out HJ2.out n2 HM3.out HJ3.out n3 (HO3.out.but HD3.out (by omega)) HS3.out HNE3.out
      have HB4 : Hid (Below (w.heap.size + 1 + 1) (((w.alloc (.cells #[.slice (some ⟨b, off, none⟩) n cap] 34)).alloc (.cells #[.slice none 0 0, .slice none 0 0] 29)).alloc (.cells #[.slice none 0 0, .slice none 0 0] 29)) (p3.setCell ⟨(w.heap.size + 1 + 1), 0, none⟩ (.slice a3 l3.length c3))) := (HB.out.trans (hd3.out.mono (by omega))).trans (HD3.out.below (by omega))
      clear hKK hk1 hk2 hk3 x0 x1 x2 x3 x4 x5 x6 x7 x8 x9 xa xb hx hbox HS HH HB HO1 HO2 HO3 HS1 HS2 HS3 HM1 HM2 HM3 HI1 HI2 HI3 HJ1 HJ2 HJ3 HNE1 HNE2 HNE3 hd1 hd2 hd3 HD3 q0 q1
      generalize p3.setCell ⟨(w.heap.size + 1 + 1), 0, none⟩ (.slice a3 l3.length c3) = w4 at *
      go_wp2_with fail
      go_roundw
      case rel => exact ⟨k + 1, _, l3, by omega, by go_num, HS4, HH4, HB4⟩
      case measure => simp [intOf]; omega
    · obtain rfl : n = k := by omega
      obtain ⟨s0, s1, s2, s3, s4⟩ := id HS.out
      obtain ⟨lT, hlT⟩ : ∃ lT, lT = l := ⟨_, rfl⟩
      rw [← hlT] at HH
      clear hlT
      have hlT0 : lT ≠ [] := by
        intro h
        have := (HH.out.mem (TB.mk (T 0) (bt 0)).td).2 (by simp only [allT, List.mem_flatMap, List.mem_range]; exact ⟨0, by omega, by simp⟩)
        rw [h] at this
        simp at this
      obtain ⟨gT, capT, hvT, hgT, hgT2⟩ : ∃ gT capT, v = .slice (some ⟨gT, 0, none⟩) lT.length capT ∧ (w.heap.size + 1 + 1 + 1) ≤ gT ∧ gT < wr.heap.size := by
        obtain ⟨aT, capT, h1, _, _, h4, h5⟩ := HH.out.own.form
        cases aT with
        | none => exact absurd (h4 rfl).1 hlT0
        | some ad =>
          obtain ⟨g, rfl, h6, h7⟩ := h5 ad rfl
          exact ⟨g, capT, h1, h6, h7⟩
      subst hvT
      obtain ⟨nT, hnT⟩ : ∃ nT, nT = lT.length := ⟨_, rfl⟩
      have HNT : Hid (nT = lT.length) := hnT
      have hnT' : nT ≤ 180 := by have := HH.out.len; omega
      rw [← hnT] at s0
      have HOT : Hid (OwnTR wr (w.heap.size + 1 + 1 + 1) (Value.slice (some ⟨gT, 0, none⟩) nT capT) lT) := by
        have := HH.out.own
        rw [← hnT] at this
        exact this
      have HTG : Hid (∀ y ∈ lT, y.good ∧ Bs w y.t.a y.t.len y.b) := fun y hy => HGD.out y (HH.out.ing y hy)
      have HTM : Hid (TermsOf (allT T U V bt bu bv n) (lT.map TB.td)) := ⟨HH.out.asc, HH.out.mem⟩
      have HL3 : Hid (lT.length ≤ 3 * n) := HH.out.len
      obtain ⟨wL, hwL⟩ : ∃ wL, wL = wr := ⟨_, rfl⟩
      rw [← hwL]
      rw [← hwL] at HB HOT s0 s1 s2 s3 s4 hgT2 hbox
      have HSX : Hid (wL.cell? ⟨(w.heap.size + 1 + 1), 0, none⟩ = some (Value.slice (some ⟨gT, 0, none⟩) nT capT) ∧ wL.cell? ⟨(w.heap.size + 1 + 1), 1, none⟩ = some (.slice none 0 0) ∧ wL.frozen? ⟨(w.heap.size + 1 + 1), 0, none⟩ = false ∧ wL.frozen? ⟨(w.heap.size + 1 + 1), 1, none⟩ = false) := ⟨s0, s1, s2, s3⟩
      have HWL : Hid (Below w.heap.size w wL) := HW.out wL HB.out
      have HIDq : Hid (∀ (y : TB) (W : World), y.good ∧ Bs w y.t.a y.t.len y.b → Kept (w.heap.size + 1 + 1) none wL W → Below (w.heap.size + 1 + 1) wL W → Calls Tryz.prog 54 #[(Value.slice (some ⟨gT, 0, none⟩) nT capT), .agg #[.int .i64 y.t.k, .slice y.t.a y.t.len y.t.cap, .int .i64 y.t.n, .int .i64 y.t.s]] W fun e w' => e = .returned (.int .i64 (idOf (lT.map TB.td) y.td : Nat)) ∧ Below W.heap.size W w') := by
        intro y W hy hkp hb
        have hw2 : Below w.heap.size w W := HWL.out.trans (hb.mono (by omega))
        have hr : TRow W (some ⟨gT, 0, none⟩) lT := by
          have ho : OwnTR W (w.heap.size + 1 + 1 + 1) (Value.slice (some ⟨gT, 0, none⟩) nT capT) lT := HOT.out.kept hkp (by omega)
          obtain ⟨a9, c9, hv, hr9, _⟩ := ho.form
          simp only [Value.slice.injEq] at hv
          rw [hv.1]
          exact hr9
        have h := l3id_any (some ⟨gT, 0, none⟩) capT lT y W (by rw [← HNT.out]; omega) hr (fun z hz => (HTG.out z hz).2.below hw2) (fun z hz => (HTG.out z hz).1) hy.1 (hy.2.below hw2)
        rw [← HNT.out] at h
        exact h
      have hlkz : ¬ (n : Int) < (n : Int) := by omega
      clear HS HH hwL hnT hlT0 s0 s1 s2 s3
      go_wp2
      go_loopw [5] (fun s5 wr => ∃ (k : Nat) (vR : Value) (vs : List Value), k ≤ 6 ∧ s5 = .int .i64 k ∧ Hid (wr.cell? ⟨(w.heap.size + 1 + 1), 0, none⟩ = some (Value.slice (some ⟨gT, 0, none⟩) nT capT) ∧ wr.cell? ⟨(w.heap.size + 1 + 1), 1, none⟩ = some vR ∧ wr.frozen? ⟨(w.heap.size + 1 + 1), 0, none⟩ = false ∧ wr.frozen? ⟨(w.heap.size + 1 + 1), 1, none⟩ = false) ∧ Hid (Orders wr wL.heap.size vR (gRows (lT.map TB.td) T U V bt bu bv n) k vs) ∧ Hid (Kept (w.heap.size + 1 + 1) none wL wr ∧ Below (w.heap.size + 1 + 1) wL wr))
        (fun s5 _ => 6 - (intOf s5).toNat)
      case atStart => exact ⟨0, .slice none 0 0, [], Nat.zero_le _, rfl, HSX, ⟨OwnV.nil _ _, rfl, fun i x hx => (by simp at hx), fun x hx => (by cases hx), List.Pairwise.nil⟩, Kept.refl _ _ _, Below.refl _ _⟩
      case round =>
        obtain ⟨k, vR, vs, hk, rfl, HSK, HO, HK⟩ := hrel
        by_cases hlk : k < 6
        · have hlkz : (k : Int) < 6 := by omega
          obtain ⟨wk, hwk⟩ : ∃ wk, wk = wr := ⟨_, rfl⟩
          rw [← hwk]
          rw [← hwk] at HSK HO HK
          clear hwk
          have hszk : wL.heap.size ≤ wk.heap.size := HK.out.1.size
          have HIDk : Hid (∀ (y : TB) (W : World), y.good ∧ Bs w y.t.a y.t.len y.b → Below wk.heap.size wk W → Calls Tryz.prog 54 #[(Value.slice (some ⟨gT, 0, none⟩) nT capT), .agg #[.int .i64 y.t.k, .slice y.t.a y.t.len y.t.cap, .int .i64 y.t.n, .int .i64 y.t.s]] W fun e w' => e = .returned (.int .i64 (idOf (lT.map TB.td) y.td : Nat)) ∧ Below W.heap.size W w') := fun y W hy hb => HIDq.out y W hy (HK.out.1.below hb) (HK.out.2.trans (hb.mono (by omega)))
          have HKC : Hid (∀ W, Below wk.heap.size wk W → W.cell? ⟨(w.heap.size + 1 + 1), 0, none⟩ = some (Value.slice (some ⟨gT, 0, none⟩) nT capT) ∧ W.cell? ⟨w.heap.size, 0, none⟩ = some (.slice (some ⟨b, off, none⟩) n cap) ∧ Below w.heap.size w W) := by
            intro W hb
            have h1 : Below (w.heap.size + 1 + 1) (((w.alloc (.cells #[.slice (some ⟨b, off, none⟩) n cap] 34)).alloc (.cells #[.slice none 0 0, .slice none 0 0] 29)).alloc (.cells #[.slice none 0 0, .slice none 0 0] 29)) W := (HB.out.trans (HK.out.2.mono (by omega))).trans (hb.mono (by omega))
            exact ⟨(hb.cell (p := ⟨(w.heap.size + 1 + 1), 0, none⟩) (by show (w.heap.size + 1 + 1) < _; omega)).trans HSK.out.1, HX.out W h1, HW.out W h1⟩
          have hbx9 := (HKC.out wk (Below.refl _ _)).2.1
          go_wp2
          go_loopw [6, 7] (fun s6 s7 wr => ∃ (i : Nat) (v6 : Value) (L : List (Int × Int × Int)), i ≤ n ∧ s6 = v6 ∧ s7 = .int .i64 i ∧ Hid (OwnRR wr wk.heap.size v6 L) ∧ Hid (L.Perm (gRows (lT.map TB.td) T U V bt bu bv i) ∧ L.Pairwise (fun x y => rcmp k x y ≤ 0)) ∧ Hid (Below wk.heap.size wk wr))
            (fun _ s7 _ => n - (intOf s7).toNat)
          case atStart => exact ⟨0, .slice none 0 0, [], Nat.zero_le _, rfl, rfl, OwnRR.nil _ _, ⟨List.Perm.refl _, List.Pairwise.nil⟩, Below.refl _ _⟩
          case round =>
            obtain ⟨i, v6, L, hi, h6, rfl, HOL0, HPL, HBk⟩ := hrel
            clear hbx9
            have HLI : Hid (L.length = i) := by
              have := HPL.out.1.length_eq
              rw [gRows_len] at this
              exact this
            obtain ⟨a6, c6, hv6⟩ : ∃ a6 c6, v6 = .slice a6 i c6 := by
              obtain ⟨a6, c6, h, _⟩ := HOL0.out.form
              rw [HLI.out] at h
              exact ⟨a6, c6, h⟩
            subst hv6
            subst h6
            have HOL : Hid (OwnRR wr wk.heap.size (.slice a6 i c6) L) := HOL0
            clear HOL0
            have hszr : wk.heap.size ≤ wr.heap.size := HBk.out.size
            obtain ⟨hq0, hq1, hq2⟩ := HKC.out wr HBk.out
            by_cases hli : i < n
            · obtain ⟨c0, hc0⟩ : ∃ c0 : Int, c0 = (idOf (lT.map TB.td) (TB.mk (T i) (bt i)).td : Nat) := ⟨_, rfl⟩
              obtain ⟨c1, hc1⟩ : ∃ c1 : Int, c1 = (idOf (lT.map TB.td) (TB.mk (U i) (bu i)).td : Nat) := ⟨_, rfl⟩
              obtain ⟨c2, hc2⟩ : ∃ c2 : Int, c2 = (idOf (lT.map TB.td) (TB.mk (V i) (bv i)).td : Nat) := ⟨_, rfl⟩
              have HC0 : Hid (c0 = (idOf (lT.map TB.td) (TB.mk (T i) (bt i)).td : Nat)) := hc0
              have HC1 : Hid (c1 = (idOf (lT.map TB.td) (TB.mk (U i) (bu i)).td : Nat)) := hc1
              have HC2 : Hid (c2 = (idOf (lT.map TB.td) (TB.mk (V i) (bv i)).td : Nat)) := hc2
              have HID0 : Hid (∀ W, Below wr.heap.size wr W → Calls Tryz.prog 54 #[(Value.slice (some ⟨gT, 0, none⟩) nT capT), .agg #[.int .i64 (T i).k, .slice (T i).a (T i).len (T i).cap, .int .i64 (T i).n, .int .i64 (T i).s]] W fun e w' => e = .returned (.int .i64 c0) ∧ Below W.heap.size W w') := fun W hb => by rw [hc0]; exact HIDk.out (TB.mk (T i) (bt i)) W (HGD.out _ (inG1 hli)) (HBk.out.trans (hb.mono hszr))
              have HID1 : Hid (∀ W, Below wr.heap.size wr W → Calls Tryz.prog 54 #[(Value.slice (some ⟨gT, 0, none⟩) nT capT), .agg #[.int .i64 (U i).k, .slice (U i).a (U i).len (U i).cap, .int .i64 (U i).n, .int .i64 (U i).s]] W fun e w' => e = .returned (.int .i64 c1) ∧ Below W.heap.size W w') := fun W hb => by rw [hc1]; exact HIDk.out (TB.mk (U i) (bu i)) W (HGD.out _ (inG2 hli)) (HBk.out.trans (hb.mono hszr))
              have HID2 : Hid (∀ W, Below wr.heap.size wr W → Calls Tryz.prog 54 #[(Value.slice (some ⟨gT, 0, none⟩) nT capT), .agg #[.int .i64 (V i).k, .slice (V i).a (V i).len (V i).cap, .int .i64 (V i).n, .int .i64 (V i).s]] W fun e w' => e = .returned (.int .i64 c2) ∧ Below W.heap.size W w') := fun W hb => by rw [hc2]; exact HIDk.out (TB.mk (V i) (bv i)) W (HGD.out _ (inG3 hli)) (HBk.out.trans (hb.mono hszr))
              have HKK : Hid (∀ w', Below wr.heap.size wr w' → w'.cell? ⟨(w.heap.size + 1 + 1), 0, none⟩ = some (Value.slice (some ⟨gT, 0, none⟩) nT capT) ∧ w'.cell? ⟨w.heap.size, 0, none⟩ = some (.slice (some ⟨b, off, none⟩) n cap) ∧ w'.cell? ⟨b, off + i * 12, none⟩ = some (.int .i64 (T i).k) ∧ w'.cell? ⟨b, off + i * 12 + 1, none⟩ = some (.slice (T i).a (T i).len (T i).cap) ∧ w'.cell? ⟨b, off + i * 12 + 2, none⟩ = some (.int .i64 (T i).n) ∧ w'.cell? ⟨b, off + i * 12 + 3, none⟩ = some (.int .i64 (T i).s) ∧ w'.cell? ⟨b, off + i * 12 + 4, none⟩ = some (.int .i64 (U i).k) ∧ w'.cell? ⟨b, off + i * 12 + 5, none⟩ = some (.slice (U i).a (U i).len (U i).cap) ∧ w'.cell? ⟨b, off + i * 12 + 6, none⟩ = some (.int .i64 (U i).n) ∧ w'.cell? ⟨b, off + i * 12 + 7, none⟩ = some (.int .i64 (U i).s) ∧ w'.cell? ⟨b, off + i * 12 + 8, none⟩ = some (.int .i64 (V i).k) ∧ w'.cell? ⟨b, off + i * 12 + 9, none⟩ = some (.slice (V i).a (V i).len (V i).cap) ∧ w'.cell? ⟨b, off + i * 12 + 10, none⟩ = some (.int .i64 (V i).n) ∧ w'.cell? ⟨b, off + i * 12 + 11, none⟩ = some (.int .i64 (V i).s)) := by
                intro w' hb'
                obtain ⟨g0, g1, g2⟩ := HKC.out w' (HBk.out.trans (hb'.mono hszr))
                have hxx := (HC.out i hli).of_block (g2.block b hlt)
                obtain ⟨⟨x0, x1, x2, x3⟩, ⟨x4, x5, x6, x7⟩, ⟨x8, x9, xa, xb⟩⟩ := hxx
                exact ⟨g0, g1, x0, x1, x2, x3, x4, x5, x6, x7, x8, x9, xa, xb⟩
              clear hc0 hc1 hc2 hq0 hq2
              go_wp2_with fail
              go_cut [8] from 46 to 112 (fun s8 wx => ∃ rb : Nat, s8 = .pointer (some ⟨rb, 0, none⟩) ∧ wr.heap.size ≤ rb ∧ Row3c wx rb (.int .i64 c0) (.int .i64 c1) (.int .i64 c2) ∧ Below wr.heap.size wr wx)
              case first =>
                refine wp_region_held_drew (S := fun w' => Below wr.heap.size wr w') (by kernel_rfl) ?_ (fun hHeld => ?_)
                · exact Below.drew (Below.refl _ _)
                refine take_at (i := 0) 53 (v := ?v1001) rfl rfl (by kernel_rfl) (by kernel_rfl) (by kernel_rfl) (fun _ _ _ h => h) (Or.inl ⟨by rfl, ?y1001⟩) hHeld ?r1001
                case y1001 => (intro w' hSw; obtain ⟨f0, f1, x0, x1, x2, x3, x4, x5, x6, x7, x8, x9, xa, xb⟩ := HKK.out w' hSw; go_simp; (try with_reducible rfl))
                try simp only [Act.put, List.setIfInBounds_toArray, List.set_cons_zero, List.set_cons_succ]
                refine take_at (i := 1) 54 (v := ?v1002) rfl rfl (by kernel_rfl) (by kernel_rfl) (by kernel_rfl) (fun _ _ _ h => h) (Or.inl ⟨by rfl, ?y1002⟩) hHeld ?r1002
                case y1002 => (intro w' hSw; obtain ⟨f0, f1, x0, x1, x2, x3, x4, x5, x6, x7, x8, x9, xa, xb⟩ := HKK.out w' hSw; go_simp; (try with_reducible rfl))
                try simp only [Act.put, List.setIfInBounds_toArray, List.set_cons_zero, List.set_cons_succ]
                refine take_at (i := 2) 55 (v := ?v1003) rfl rfl (by kernel_rfl) (by kernel_rfl) (by kernel_rfl) (fun _ _ _ h => h) (Or.inl ⟨by rfl, ?y1003⟩) hHeld ?r1003
                case y1003 => (intro w' hSw; obtain ⟨f0, f1, x0, x1, x2, x3, x4, x5, x6, x7, x8, x9, xa, xb⟩ := HKK.out w' hSw; go_simp; (try with_reducible rfl))
                try simp only [Act.put, List.setIfInBounds_toArray, List.set_cons_zero, List.set_cons_succ]
                refine take_at (i := 3) 56 (v := ?v1004) rfl rfl (by kernel_rfl) (by kernel_rfl) (by kernel_rfl) (fun _ _ _ h => h) (Or.inl ⟨by rfl, ?y1004⟩) hHeld ?r1004
                case y1004 => (intro w' hSw; obtain ⟨f0, f1, x0, x1, x2, x3, x4, x5, x6, x7, x8, x9, xa, xb⟩ := HKK.out w' hSw; go_simp; (try with_reducible rfl))
                try simp only [Act.put, List.setIfInBounds_toArray, List.set_cons_zero, List.set_cons_succ]
                refine take_at (i := 4) 57 (v := ?v1005) rfl rfl (by kernel_rfl) (by kernel_rfl) (by kernel_rfl) (fun _ _ _ h => h) (Or.inl ⟨by rfl, ?y1005⟩) hHeld ?r1005
                case y1005 => (intro w' hSw; obtain ⟨f0, f1, x0, x1, x2, x3, x4, x5, x6, x7, x8, x9, xa, xb⟩ := HKK.out w' hSw; go_simp; (try with_reducible rfl))
                try simp only [Act.put, List.setIfInBounds_toArray, List.set_cons_zero, List.set_cons_succ]
                refine take_at (i := 5) 58 (v := ?v1006) rfl rfl (by kernel_rfl) (by kernel_rfl) (by kernel_rfl) (fun _ _ _ h => h) (Or.inl ⟨by rfl, ?y1006⟩) hHeld ?r1006
                case y1006 => (intro w' hSw; obtain ⟨f0, f1, x0, x1, x2, x3, x4, x5, x6, x7, x8, x9, xa, xb⟩ := HKK.out w' hSw; go_simp; (try with_reducible rfl))
                try simp only [Act.put, List.setIfInBounds_toArray, List.set_cons_zero, List.set_cons_succ]
                refine take_at (i := 6) 59 (v := ?v1007) rfl rfl (by kernel_rfl) (by kernel_rfl) (by kernel_rfl) (fun _ _ _ h => h) (Or.inl ⟨by rfl, ?y1007⟩) hHeld ?r1007
                case y1007 => (intro w' hSw; obtain ⟨f0, f1, x0, x1, x2, x3, x4, x5, x6, x7, x8, x9, xa, xb⟩ := HKK.out w' hSw; go_simp; (try with_reducible rfl))
                try simp only [Act.put, List.setIfInBounds_toArray, List.set_cons_zero, List.set_cons_succ]
                refine take_at (i := 7) 60 (v := ?v1008) rfl rfl (by kernel_rfl) (by kernel_rfl) (by kernel_rfl) (fun _ _ _ h => h) (Or.inl ⟨by rfl, ?y1008⟩) hHeld ?r1008
                case y1008 => (intro w' hSw; obtain ⟨f0, f1, x0, x1, x2, x3, x4, x5, x6, x7, x8, x9, xa, xb⟩ := HKK.out w' hSw; go_simp; (try with_reducible rfl))
                try simp only [Act.put, List.setIfInBounds_toArray, List.set_cons_zero, List.set_cons_succ]
                refine take_at (i := 9) 62 (v := ?v1009) rfl rfl (by kernel_rfl) (by kernel_rfl) (by kernel_rfl) (fun _ _ _ h => h) (Or.inl ⟨by rfl, ?y1009⟩) hHeld ?r1009
                case y1009 => (intro w' hSw; obtain ⟨f0, f1, x0, x1, x2, x3, x4, x5, x6, x7, x8, x9, xa, xb⟩ := HKK.out w' hSw; go_simp; (try with_reducible rfl))
                try simp only [Act.put, List.setIfInBounds_toArray, List.set_cons_zero, List.set_cons_succ]
                refine take_at (i := 10) 63 (v := ?v1010) rfl rfl (by kernel_rfl) (by kernel_rfl) (by kernel_rfl) (fun _ _ _ h => h) (Or.inl ⟨by rfl, ?y1010⟩) hHeld ?r1010
                case y1010 => (intro w' hSw; obtain ⟨f0, f1, x0, x1, x2, x3, x4, x5, x6, x7, x8, x9, xa, xb⟩ := HKK.out w' hSw; go_simp; (try with_reducible rfl))
                try simp only [Act.put, List.setIfInBounds_toArray, List.set_cons_zero, List.set_cons_succ]
                refine take_at (i := 11) 64 (v := ?v1011) rfl rfl (by kernel_rfl) (by kernel_rfl) (by kernel_rfl) (fun _ _ _ h => h) (Or.inl ⟨by rfl, ?y1011⟩) hHeld ?r1011
                case y1011 => (intro w' hSw; obtain ⟨f0, f1, x0, x1, x2, x3, x4, x5, x6, x7, x8, x9, xa, xb⟩ := HKK.out w' hSw; go_simp; (try with_reducible rfl))
                try simp only [Act.put, List.setIfInBounds_toArray, List.set_cons_zero, List.set_cons_succ]
                refine take_at (i := 12) 65 (v := ?v1012) rfl rfl (by kernel_rfl) (by kernel_rfl) (by kernel_rfl) (fun _ _ _ h => h) (Or.inl ⟨by rfl, ?y1012⟩) hHeld ?r1012
                case y1012 => (intro w' hSw; obtain ⟨f0, f1, x0, x1, x2, x3, x4, x5, x6, x7, x8, x9, xa, xb⟩ := HKK.out w' hSw; go_simp; (try with_reducible rfl))
                try simp only [Act.put, List.setIfInBounds_toArray, List.set_cons_zero, List.set_cons_succ]
                refine take_at (i := 13) 66 (v := ?v1013) rfl rfl (by kernel_rfl) (by kernel_rfl) (by kernel_rfl) (fun _ _ _ h => h) (Or.inl ⟨by rfl, ?y1013⟩) hHeld ?r1013
                case y1013 => (intro w' hSw; obtain ⟨f0, f1, x0, x1, x2, x3, x4, x5, x6, x7, x8, x9, xa, xb⟩ := HKK.out w' hSw; go_simp; (try with_reducible rfl))
                try simp only [Act.put, List.setIfInBounds_toArray, List.set_cons_zero, List.set_cons_succ]
                refine take_at (i := 14) 67 (v := ?v1014) rfl rfl (by kernel_rfl) (by kernel_rfl) (by kernel_rfl) (fun _ _ _ h => h) (Or.inl ⟨by rfl, ?y1014⟩) hHeld ?r1014
                case y1014 => (intro w' hSw; obtain ⟨f0, f1, x0, x1, x2, x3, x4, x5, x6, x7, x8, x9, xa, xb⟩ := HKK.out w' hSw; go_simp; (try with_reducible rfl))
                try simp only [Act.put, List.setIfInBounds_toArray, List.set_cons_zero, List.set_cons_succ]
                refine take_at (i := 15) 68 (v := ?v1015) rfl rfl (by kernel_rfl) (by kernel_rfl) (by kernel_rfl) (fun _ _ _ h => h) (Or.inl ⟨by rfl, ?y1015⟩) hHeld ?r1015
                case y1015 => (intro w' hSw; obtain ⟨f0, f1, x0, x1, x2, x3, x4, x5, x6, x7, x8, x9, xa, xb⟩ := HKK.out w' hSw; go_simp; (try with_reducible rfl))
                try simp only [Act.put, List.setIfInBounds_toArray, List.set_cons_zero, List.set_cons_succ]
                refine take_at (i := 16) 69 (v := ?v1016) rfl rfl (by kernel_rfl) (by kernel_rfl) (by kernel_rfl) (fun _ _ _ h => h) (Or.inl ⟨by rfl, ?y1016⟩) hHeld ?r1016
                case y1016 => (intro w' hSw; obtain ⟨f0, f1, x0, x1, x2, x3, x4, x5, x6, x7, x8, x9, xa, xb⟩ := HKK.out w' hSw; go_simp; (try with_reducible rfl))
                try simp only [Act.put, List.setIfInBounds_toArray, List.set_cons_zero, List.set_cons_succ]
                refine take_at (i := 18) 71 (v := ?v1017) rfl rfl (by kernel_rfl) (by kernel_rfl) (by kernel_rfl) (fun _ _ _ h => h) (Or.inl ⟨by rfl, ?y1017⟩) hHeld ?r1017
                case y1017 => (intro w' hSw; obtain ⟨f0, f1, x0, x1, x2, x3, x4, x5, x6, x7, x8, x9, xa, xb⟩ := HKK.out w' hSw; go_simp; (try with_reducible rfl))
                try simp only [Act.put, List.setIfInBounds_toArray, List.set_cons_zero, List.set_cons_succ]
                refine take_at (i := 19) 72 (v := ?v1018) rfl rfl (by kernel_rfl) (by kernel_rfl) (by kernel_rfl) (fun _ _ _ h => h) (Or.inl ⟨by rfl, ?y1018⟩) hHeld ?r1018
                case y1018 => (intro w' hSw; obtain ⟨f0, f1, x0, x1, x2, x3, x4, x5, x6, x7, x8, x9, xa, xb⟩ := HKK.out w' hSw; go_simp; (try with_reducible rfl))
                try simp only [Act.put, List.setIfInBounds_toArray, List.set_cons_zero, List.set_cons_succ]
                refine take_at (i := 20) 73 (v := ?v1019) rfl rfl (by kernel_rfl) (by kernel_rfl) (by kernel_rfl) (fun _ _ _ h => h) (Or.inl ⟨by rfl, ?y1019⟩) hHeld ?r1019
                case y1019 => (intro w' hSw; obtain ⟨f0, f1, x0, x1, x2, x3, x4, x5, x6, x7, x8, x9, xa, xb⟩ := HKK.out w' hSw; go_simp; (try with_reducible rfl))
                try simp only [Act.put, List.setIfInBounds_toArray, List.set_cons_zero, List.set_cons_succ]
                refine take_at (i := 21) 74 (v := ?v1020) rfl rfl (by kernel_rfl) (by kernel_rfl) (by kernel_rfl) (fun _ _ _ h => h) (Or.inl ⟨by rfl, ?y1020⟩) hHeld ?r1020
                case y1020 => (intro w' hSw; obtain ⟨f0, f1, x0, x1, x2, x3, x4, x5, x6, x7, x8, x9, xa, xb⟩ := HKK.out w' hSw; go_simp; (try with_reducible rfl))
                try simp only [Act.put, List.setIfInBounds_toArray, List.set_cons_zero, List.set_cons_succ]
                refine take_at (i := 22) 75 (v := ?v1021) rfl rfl (by kernel_rfl) (by kernel_rfl) (by kernel_rfl) (fun _ _ _ h => h) (Or.inl ⟨by rfl, ?y1021⟩) hHeld ?r1021
                case y1021 => (intro w' hSw; obtain ⟨f0, f1, x0, x1, x2, x3, x4, x5, x6, x7, x8, x9, xa, xb⟩ := HKK.out w' hSw; go_simp; (try with_reducible rfl))
                try simp only [Act.put, List.setIfInBounds_toArray, List.set_cons_zero, List.set_cons_succ]
                refine take_at (i := 23) 76 (v := ?v1022) rfl rfl (by kernel_rfl) (by kernel_rfl) (by kernel_rfl) (fun _ _ _ h => h) (Or.inl ⟨by rfl, ?y1022⟩) hHeld ?r1022
                case y1022 => (intro w' hSw; obtain ⟨f0, f1, x0, x1, x2, x3, x4, x5, x6, x7, x8, x9, xa, xb⟩ := HKK.out w' hSw; go_simp; (try with_reducible rfl))
                try simp only [Act.put, List.setIfInBounds_toArray, List.set_cons_zero, List.set_cons_succ]
                refine take_at (i := 24) 77 (v := ?v1023) rfl rfl (by kernel_rfl) (by kernel_rfl) (by kernel_rfl) (fun _ _ _ h => h) (Or.inl ⟨by rfl, ?y1023⟩) hHeld ?r1023
                case y1023 => (intro w' hSw; obtain ⟨f0, f1, x0, x1, x2, x3, x4, x5, x6, x7, x8, x9, xa, xb⟩ := HKK.out w' hSw; go_simp; (try with_reducible rfl))
                try simp only [Act.put, List.setIfInBounds_toArray, List.set_cons_zero, List.set_cons_succ]
                refine take_at (i := 25) 78 (v := ?v1024) rfl rfl (by kernel_rfl) (by kernel_rfl) (by kernel_rfl) (fun _ _ _ h => h) (Or.inl ⟨by rfl, ?y1024⟩) hHeld ?r1024
                case y1024 => (intro w' hSw; obtain ⟨f0, f1, x0, x1, x2, x3, x4, x5, x6, x7, x8, x9, xa, xb⟩ := HKK.out w' hSw; go_simp; (try with_reducible rfl))
                try simp only [Act.put, List.setIfInBounds_toArray, List.set_cons_zero, List.set_cons_succ]
                obtain ⟨wd, hwd⟩ : ∃ wd, wd = wr.drew := ⟨_, rfl⟩
                have HLwd : Hid (Below wr.heap.size wr wd) := by rw [hwd]; exact Below.drew (Below.refl _ _)
                rw [← hwd]
                rw [← hwd] at hHeld
                clear hwd
                refine wpAnyH_ready (rs := [8, 28]) (by kernel_rfl) (by simp) ?_
                refine AllReadyH.cons rfl (fun K hK => ?_) (AllReadyH.cons rfl (fun K hK => ?_) (AllReadyH.nil))
                · go_simp
                  refine (HID0.out _ HLwd.out).mono ?_
                  rintro e pxc ⟨rfl, hb9⟩
                  have HLpxc : Hid (Below wr.heap.size wr pxc) := HLwd.out.trans (hb9.mono HLwd.out.size)
                  clear hb9
                  go_wp2_with fail
                  refine hK.out _ _ ?_ (fun hHeld => ?_)
                  · exact HLpxc.out
                  clear hK K
                  try simp only [Act.put, List.setIfInBounds_toArray, List.set_cons_zero, List.set_cons_succ]
                  refine wpAnyH_ready (rs := [17, 28]) (by kernel_rfl) (by simp) ?_
                  refine AllReadyH.cons rfl (fun K hK => ?_) (AllReadyH.cons rfl (fun K hK => ?_) (AllReadyH.nil))
                  · go_simp
                    refine (HID1.out _ HLpxc.out).mono ?_
                    rintro e pxcc ⟨rfl, hb9⟩
                    have HLpxcc : Hid (Below wr.heap.size wr pxcc) := HLpxc.out.trans (hb9.mono HLpxc.out.size)
                    clear hb9
                    go_wp2_with fail
                    refine hK.out _ _ ?_ (fun hHeld => ?_)
                    · exact HLpxcc.out
                    clear hK K
                    try simp only [Act.put, List.setIfInBounds_toArray, List.set_cons_zero, List.set_cons_succ]
                    refine wpAnyH_ready (rs := [26, 28]) (by kernel_rfl) (by simp) ?_
                    refine AllReadyH.cons rfl (fun K hK => ?_) (AllReadyH.cons rfl (fun K hK => ?_) (AllReadyH.nil))
                    · go_simp
                      refine (HID2.out _ HLpxcc.out).mono ?_
                      rintro e pxccc ⟨rfl, hb9⟩
                      have HLpxccc : Hid (Below wr.heap.size wr pxccc) := HLpxcc.out.trans (hb9.mono HLpxcc.out.size)
                      clear hb9
                      go_wp2_with fail
                      refine hK.out _ _ ?_ (fun hHeld => ?_)
                      · exact HLpxccc.out
                      clear hK K
                      try simp only [Act.put, List.setIfInBounds_toArray, List.set_cons_zero, List.set_cons_succ]
                      refine take_at (i := 27) 80 (v := ?v1025) rfl rfl (by kernel_rfl) (by kernel_rfl) (by kernel_rfl) (fun _ _ _ h => h) (Or.inl ⟨by rfl, ?y1025⟩) hHeld ?r1025
                      case y1025 => (intro w' hSw; skip; go_simp; (try with_reducible rfl))
                      try simp only [Act.put, List.setIfInBounds_toArray, List.set_cons_zero, List.set_cons_succ]
                      refine wpAnyH_ready (rs := [28]) (by kernel_rfl) (by simp) ?_
                      refine AllReadyH.cons rfl (fun K hK => ?_) (AllReadyH.nil)
                      · go_simp
                        refine hK.out _ _ ?_ (fun hHeld => ?_)
                        · exact HLpxccc.out.alloc HLpxccc.out.size _
                        clear hK K
                        try simp only [Act.put, List.setIfInBounds_toArray, List.set_cons_zero, List.set_cons_succ]
                        obtain ⟨pxccca, hpxccca⟩ : ∃ pxccca, pxccca = pxccc.alloc (.cells #[.int .i64 0, .int .i64 0, .int .i64 0] 99) := ⟨_, rfl⟩
                        have HLpxccca : Hid (Below wr.heap.size wr pxccca) := by rw [hpxccca]; exact HLpxccc.out.alloc HLpxccc.out.size _
                        have HZpxccca : Hid (Row3c pxccca pxccc.heap.size (.int .i64 0) (.int .i64 0) (.int .i64 0) ∧ pxccca.frozen? ⟨pxccc.heap.size, 0, none⟩ = false ∧ pxccca.frozen? ⟨pxccc.heap.size, 1, none⟩ = false ∧ pxccca.frozen? ⟨pxccc.heap.size, 2, none⟩ = false ∧ wr.heap.size ≤ pxccc.heap.size) := by rw [hpxccca]; exact ⟨Row3c.at _ _ _ _ _ _ rfl, by simp [go_sem], by simp [go_sem], by simp [go_sem], HLpxccc.out.size⟩
                        rw [← hpxccca]
                        rw [← hpxccca] at hHeld
                        clear hpxccca
                        obtain ⟨⟨hz, z0, z1, z2⟩, f0, f1, f2, hrb⟩ := id HZpxccca.out
                        refine wpAnyH_ready (rs := [29]) (by kernel_rfl) (by simp) ?_
                        refine AllReadyH.cons rfl (fun K hK => ?_) AllReadyH.nil
                        go_simp
                        refine hK.out _ _ ?_ (fun hHeld => ?_)
                        · exact ((HLpxccca.out.setCell (p := ⟨pxccc.heap.size, 0, none⟩) hrb _).setCell (p := ⟨pxccc.heap.size, 1, none⟩) hrb _).setCell (p := ⟨pxccc.heap.size, 2, none⟩) hrb _
                        clear hK K
                        refine wpAnyH_done (by kernel_rfl) ?_ _
                        go_wp2_with fail
                        go_meet
                        exact ⟨pxccc.heap.size, rfl, hrb, Row3c.set3 ⟨hz, z0, z1, z2⟩, ((HLpxccca.out.setCell (p := ⟨pxccc.heap.size, 0, none⟩) hrb _).setCell (p := ⟨pxccc.heap.size, 1, none⟩) hrb _).setCell (p := ⟨pxccc.heap.size, 2, none⟩) hrb _⟩
                    · go_simp
                      refine hK.out _ _ ?_ (fun hHeld => ?_)
                      · exact HLpxcc.out.alloc HLpxcc.out.size _
                      clear hK K
                      try simp only [Act.put, List.setIfInBounds_toArray, List.set_cons_zero, List.set_cons_succ]
                      obtain ⟨pxcca, hpxcca⟩ : ∃ pxcca, pxcca = pxcc.alloc (.cells #[.int .i64 0, .int .i64 0, .int .i64 0] 99) := ⟨_, rfl⟩
                      have HLpxcca : Hid (Below wr.heap.size wr pxcca) := by rw [hpxcca]; exact HLpxcc.out.alloc HLpxcc.out.size _
                      have HZpxcca : Hid (Row3c pxcca pxcc.heap.size (.int .i64 0) (.int .i64 0) (.int .i64 0) ∧ pxcca.frozen? ⟨pxcc.heap.size, 0, none⟩ = false ∧ pxcca.frozen? ⟨pxcc.heap.size, 1, none⟩ = false ∧ pxcca.frozen? ⟨pxcc.heap.size, 2, none⟩ = false ∧ wr.heap.size ≤ pxcc.heap.size) := by rw [hpxcca]; exact ⟨Row3c.at _ _ _ _ _ _ rfl, by simp [go_sem], by simp [go_sem], by simp [go_sem], HLpxcc.out.size⟩
                      rw [← hpxcca]
                      rw [← hpxcca] at hHeld
                      clear hpxcca
                      refine wpAnyH_ready (rs := [26]) (by kernel_rfl) (by simp) ?_
                      refine AllReadyH.cons rfl (fun K hK => ?_) (AllReadyH.nil)
                      · go_simp
                        refine (HID2.out _ HLpxcca.out).mono ?_
                        rintro e pxccac ⟨rfl, hb9⟩
                        have HLpxccac : Hid (Below wr.heap.size wr pxccac) := HLpxcca.out.trans (hb9.mono HLpxcca.out.size)
                        have HZpxccac : Hid (Row3c pxccac pxcc.heap.size (.int .i64 0) (.int .i64 0) (.int .i64 0) ∧ pxccac.frozen? ⟨pxcc.heap.size, 0, none⟩ = false ∧ pxccac.frozen? ⟨pxcc.heap.size, 1, none⟩ = false ∧ pxccac.frozen? ⟨pxcc.heap.size, 2, none⟩ = false ∧ wr.heap.size ≤ pxcc.heap.size) := ⟨HZpxcca.out.1.below hb9, (hb9.frozen (p := ⟨pxcc.heap.size, 0, none⟩) HZpxcca.out.1.1).trans HZpxcca.out.2.1, (hb9.frozen (p := ⟨pxcc.heap.size, 1, none⟩) HZpxcca.out.1.1).trans HZpxcca.out.2.2.1, (hb9.frozen (p := ⟨pxcc.heap.size, 2, none⟩) HZpxcca.out.1.1).trans HZpxcca.out.2.2.2.1, HZpxcca.out.2.2.2.2⟩
                        clear hb9
                        go_wp2_with fail
                        refine hK.out _ _ ?_ (fun hHeld => ?_)
                        · exact HLpxccac.out
                        clear hK K
                        try simp only [Act.put, List.setIfInBounds_toArray, List.set_cons_zero, List.set_cons_succ]
                        refine take_at (i := 27) 80 (v := ?v1026) rfl rfl (by kernel_rfl) (by kernel_rfl) (by kernel_rfl) (fun _ _ _ h => h) (Or.inl ⟨by rfl, ?y1026⟩) hHeld ?r1026
                        case y1026 => (intro w' hSw; skip; go_simp; (try with_reducible rfl))
                        try simp only [Act.put, List.setIfInBounds_toArray, List.set_cons_zero, List.set_cons_succ]
                        obtain ⟨⟨hz, z0, z1, z2⟩, f0, f1, f2, hrb⟩ := id HZpxccac.out
                        refine wpAnyH_ready (rs := [29]) (by kernel_rfl) (by simp) ?_
                        refine AllReadyH.cons rfl (fun K hK => ?_) AllReadyH.nil
                        go_simp
                        refine hK.out _ _ ?_ (fun hHeld => ?_)
                        · exact ((HLpxccac.out.setCell (p := ⟨pxcc.heap.size, 0, none⟩) hrb _).setCell (p := ⟨pxcc.heap.size, 1, none⟩) hrb _).setCell (p := ⟨pxcc.heap.size, 2, none⟩) hrb _
                        clear hK K
                        refine wpAnyH_done (by kernel_rfl) ?_ _
                        go_wp2_with fail
                        go_meet
                        exact ⟨pxcc.heap.size, rfl, hrb, Row3c.set3 ⟨hz, z0, z1, z2⟩, ((HLpxccac.out.setCell (p := ⟨pxcc.heap.size, 0, none⟩) hrb _).setCell (p := ⟨pxcc.heap.size, 1, none⟩) hrb _).setCell (p := ⟨pxcc.heap.size, 2, none⟩) hrb _⟩
                  · go_simp
                    refine hK.out _ _ ?_ (fun hHeld => ?_)
                    · exact HLpxc.out.alloc HLpxc.out.size _
                    clear hK K
                    try simp only [Act.put, List.setIfInBounds_toArray, List.set_cons_zero, List.set_cons_succ]
                    obtain ⟨pxca, hpxca⟩ : ∃ pxca, pxca = pxc.alloc (.cells #[.int .i64 0, .int .i64 0, .int .i64 0] 99) := ⟨_, rfl⟩
                    have HLpxca : Hid (Below wr.heap.size wr pxca) := by rw [hpxca]; exact HLpxc.out.alloc HLpxc.out.size _
                    have HZpxca : Hid (Row3c pxca pxc.heap.size (.int .i64 0) (.int .i64 0) (.int .i64 0) ∧ pxca.frozen? ⟨pxc.heap.size, 0, none⟩ = false ∧ pxca.frozen? ⟨pxc.heap.size, 1, none⟩ = false ∧ pxca.frozen? ⟨pxc.heap.size, 2, none⟩ = false ∧ wr.heap.size ≤ pxc.heap.size) := by rw [hpxca]; exact ⟨Row3c.at _ _ _ _ _ _ rfl, by simp [go_sem], by simp [go_sem], by simp [go_sem], HLpxc.out.size⟩
                    rw [← hpxca]
                    rw [← hpxca] at hHeld
                    clear hpxca
                    refine wpAnyH_ready (rs := [17]) (by kernel_rfl) (by simp) ?_
                    refine AllReadyH.cons rfl (fun K hK => ?_) (AllReadyH.nil)
                    · go_simp
                      refine (HID1.out _ HLpxca.out).mono ?_
                      rintro e pxcac ⟨rfl, hb9⟩
                      have HLpxcac : Hid (Below wr.heap.size wr pxcac) := HLpxca.out.trans (hb9.mono HLpxca.out.size)
                      have HZpxcac : Hid (Row3c pxcac pxc.heap.size (.int .i64 0) (.int .i64 0) (.int .i64 0) ∧ pxcac.frozen? ⟨pxc.heap.size, 0, none⟩ = false ∧ pxcac.frozen? ⟨pxc.heap.size, 1, none⟩ = false ∧ pxcac.frozen? ⟨pxc.heap.size, 2, none⟩ = false ∧ wr.heap.size ≤ pxc.heap.size) := ⟨HZpxca.out.1.below hb9, (hb9.frozen (p := ⟨pxc.heap.size, 0, none⟩) HZpxca.out.1.1).trans HZpxca.out.2.1, (hb9.frozen (p := ⟨pxc.heap.size, 1, none⟩) HZpxca.out.1.1).trans HZpxca.out.2.2.1, (hb9.frozen (p := ⟨pxc.heap.size, 2, none⟩) HZpxca.out.1.1).trans HZpxca.out.2.2.2.1, HZpxca.out.2.2.2.2⟩
                      clear hb9
                      go_wp2_with fail
                      refine hK.out _ _ ?_ (fun hHeld => ?_)
                      · exact HLpxcac.out
                      clear hK K
                      try simp only [Act.put, List.setIfInBounds_toArray, List.set_cons_zero, List.set_cons_succ]
                      refine wpAnyH_ready (rs := [26]) (by kernel_rfl) (by simp) ?_
                      refine AllReadyH.cons rfl (fun K hK => ?_) (AllReadyH.nil)
                      · go_simp
                        refine (HID2.out _ HLpxcac.out).mono ?_
                        rintro e pxcacc ⟨rfl, hb9⟩
                        have HLpxcacc : Hid (Below wr.heap.size wr pxcacc) := HLpxcac.out.trans (hb9.mono HLpxcac.out.size)
                        have HZpxcacc : Hid (Row3c pxcacc pxc.heap.size (.int .i64 0) (.int .i64 0) (.int .i64 0) ∧ pxcacc.frozen? ⟨pxc.heap.size, 0, none⟩ = false ∧ pxcacc.frozen? ⟨pxc.heap.size, 1, none⟩ = false ∧ pxcacc.frozen? ⟨pxc.heap.size, 2, none⟩ = false ∧ wr.heap.size ≤ pxc.heap.size) := ⟨HZpxcac.out.1.below hb9, (hb9.frozen (p := ⟨pxc.heap.size, 0, none⟩) HZpxcac.out.1.1).trans HZpxcac.out.2.1, (hb9.frozen (p := ⟨pxc.heap.size, 1, none⟩) HZpxcac.out.1.1).trans HZpxcac.out.2.2.1, (hb9.frozen (p := ⟨pxc.heap.size, 2, none⟩) HZpxcac.out.1.1).trans HZpxcac.out.2.2.2.1, HZpxcac.out.2.2.2.2⟩
                        clear hb9
                        go_wp2_with fail
                        refine hK.out _ _ ?_ (fun hHeld => ?_)
                        · exact HLpxcacc.out
                        clear hK K
                        try simp only [Act.put, List.setIfInBounds_toArray, List.set_cons_zero, List.set_cons_succ]
                        refine take_at (i := 27) 80 (v := ?v1027) rfl rfl (by kernel_rfl) (by kernel_rfl) (by kernel_rfl) (fun _ _ _ h => h) (Or.inl ⟨by rfl, ?y1027⟩) hHeld ?r1027
                        case y1027 => (intro w' hSw; skip; go_simp; (try with_reducible rfl))
                        try simp only [Act.put, List.setIfInBounds_toArray, List.set_cons_zero, List.set_cons_succ]
                        obtain ⟨⟨hz, z0, z1, z2⟩, f0, f1, f2, hrb⟩ := id HZpxcacc.out
                        refine wpAnyH_ready (rs := [29]) (by kernel_rfl) (by simp) ?_
                        refine AllReadyH.cons rfl (fun K hK => ?_) AllReadyH.nil
                        go_simp
                        refine hK.out _ _ ?_ (fun hHeld => ?_)
                        · exact ((HLpxcacc.out.setCell (p := ⟨pxc.heap.size, 0, none⟩) hrb _).setCell (p := ⟨pxc.heap.size, 1, none⟩) hrb _).setCell (p := ⟨pxc.heap.size, 2, none⟩) hrb _
                        clear hK K
                        refine wpAnyH_done (by kernel_rfl) ?_ _
                        go_wp2_with fail
                        go_meet
                        exact ⟨pxc.heap.size, rfl, hrb, Row3c.set3 ⟨hz, z0, z1, z2⟩, ((HLpxcacc.out.setCell (p := ⟨pxc.heap.size, 0, none⟩) hrb _).setCell (p := ⟨pxc.heap.size, 1, none⟩) hrb _).setCell (p := ⟨pxc.heap.size, 2, none⟩) hrb _⟩
                · go_simp
                  refine hK.out _ _ ?_ (fun hHeld => ?_)
                  · exact HLwd.out.alloc HLwd.out.size _
                  clear hK K
                  try simp only [Act.put, List.setIfInBounds_toArray, List.set_cons_zero, List.set_cons_succ]
                  obtain ⟨pxa, hpxa⟩ : ∃ pxa, pxa = wd.alloc (.cells #[.int .i64 0, .int .i64 0, .int .i64 0] 99) := ⟨_, rfl⟩
                  have HLpxa : Hid (Below wr.heap.size wr pxa) := by rw [hpxa]; exact HLwd.out.alloc HLwd.out.size _
                  have HZpxa : Hid (Row3c pxa wd.heap.size (.int .i64 0) (.int .i64 0) (.int .i64 0) ∧ pxa.frozen? ⟨wd.heap.size, 0, none⟩ = false ∧ pxa.frozen? ⟨wd.heap.size, 1, none⟩ = false ∧ pxa.frozen? ⟨wd.heap.size, 2, none⟩ = false ∧ wr.heap.size ≤ wd.heap.size) := by rw [hpxa]; exact ⟨Row3c.at _ _ _ _ _ _ rfl, by simp [go_sem], by simp [go_sem], by simp [go_sem], HLwd.out.size⟩
                  rw [← hpxa]
                  rw [← hpxa] at hHeld
                  clear hpxa
                  refine wpAnyH_ready (rs := [8]) (by kernel_rfl) (by simp) ?_
                  refine AllReadyH.cons rfl (fun K hK => ?_) (AllReadyH.nil)
                  · go_simp
                    refine (HID0.out _ HLpxa.out).mono ?_
                    rintro e pxac ⟨rfl, hb9⟩
                    have HLpxac : Hid (Below wr.heap.size wr pxac) := HLpxa.out.trans (hb9.mono HLpxa.out.size)
                    have HZpxac : Hid (Row3c pxac wd.heap.size (.int .i64 0) (.int .i64 0) (.int .i64 0) ∧ pxac.frozen? ⟨wd.heap.size, 0, none⟩ = false ∧ pxac.frozen? ⟨wd.heap.size, 1, none⟩ = false ∧ pxac.frozen? ⟨wd.heap.size, 2, none⟩ = false ∧ wr.heap.size ≤ wd.heap.size) := ⟨HZpxa.out.1.below hb9, (hb9.frozen (p := ⟨wd.heap.size, 0, none⟩) HZpxa.out.1.1).trans HZpxa.out.2.1, (hb9.frozen (p := ⟨wd.heap.size, 1, none⟩) HZpxa.out.1.1).trans HZpxa.out.2.2.1, (hb9.frozen (p := ⟨wd.heap.size, 2, none⟩) HZpxa.out.1.1).trans HZpxa.out.2.2.2.1, HZpxa.out.2.2.2.2⟩
                    clear hb9
                    go_wp2_with fail
                    refine hK.out _ _ ?_ (fun hHeld => ?_)
                    · exact HLpxac.out
                    clear hK K
                    try simp only [Act.put, List.setIfInBounds_toArray, List.set_cons_zero, List.set_cons_succ]
                    refine wpAnyH_ready (rs := [17]) (by kernel_rfl) (by simp) ?_
                    refine AllReadyH.cons rfl (fun K hK => ?_) (AllReadyH.nil)
                    · go_simp
                      refine (HID1.out _ HLpxac.out).mono ?_
                      rintro e pxacc ⟨rfl, hb9⟩
                      have HLpxacc : Hid (Below wr.heap.size wr pxacc) := HLpxac.out.trans (hb9.mono HLpxac.out.size)
                      have HZpxacc : Hid (Row3c pxacc wd.heap.size (.int .i64 0) (.int .i64 0) (.int .i64 0) ∧ pxacc.frozen? ⟨wd.heap.size, 0, none⟩ = false ∧ pxacc.frozen? ⟨wd.heap.size, 1, none⟩ = false ∧ pxacc.frozen? ⟨wd.heap.size, 2, none⟩ = false ∧ wr.heap.size ≤ wd.heap.size) := ⟨HZpxac.out.1.below hb9, (hb9.frozen (p := ⟨wd.heap.size, 0, none⟩) HZpxac.out.1.1).trans HZpxac.out.2.1, (hb9.frozen (p := ⟨wd.heap.size, 1, none⟩) HZpxac.out.1.1).trans HZpxac.out.2.2.1, (hb9.frozen (p := ⟨wd.heap.size, 2, none⟩) HZpxac.out.1.1).trans HZpxac.out.2.2.2.1, HZpxac.out.2.2.2.2⟩
                      clear hb9
                      go_wp2_with fail
                      refine hK.out _ _ ?_ (fun hHeld => ?_)
                      · exact HLpxacc.out
                      clear hK K
                      try simp only [Act.put, List.setIfInBounds_toArray, List.set_cons_zero, List.set_cons_succ]
                      refine wpAnyH_ready (rs := [26]) (by kernel_rfl) (by simp) ?_
                      refine AllReadyH.cons rfl (fun K hK => ?_) (AllReadyH.nil)
                      · go_simp
                        refine (HID2.out _ HLpxacc.out).mono ?_
                        rintro e pxaccc ⟨rfl, hb9⟩
                        have HLpxaccc : Hid (Below wr.heap.size wr pxaccc) := HLpxacc.out.trans (hb9.mono HLpxacc.out.size)
                        have HZpxaccc : Hid (Row3c pxaccc wd.heap.size (.int .i64 0) (.int .i64 0) (.int .i64 0) ∧ pxaccc.frozen? ⟨wd.heap.size, 0, none⟩ = false ∧ pxaccc.frozen? ⟨wd.heap.size, 1, none⟩ = false ∧ pxaccc.frozen? ⟨wd.heap.size, 2, none⟩ = false ∧ wr.heap.size ≤ wd.heap.size) := ⟨HZpxacc.out.1.below hb9, (hb9.frozen (p := ⟨wd.heap.size, 0, none⟩) HZpxacc.out.1.1).trans HZpxacc.out.2.1, (hb9.frozen (p := ⟨wd.heap.size, 1, none⟩) HZpxacc.out.1.1).trans HZpxacc.out.2.2.1, (hb9.frozen (p := ⟨wd.heap.size, 2, none⟩) HZpxacc.out.1.1).trans HZpxacc.out.2.2.2.1, HZpxacc.out.2.2.2.2⟩
                        clear hb9
                        go_wp2_with fail
                        refine hK.out _ _ ?_ (fun hHeld => ?_)
                        · exact HLpxaccc.out
                        clear hK K
                        try simp only [Act.put, List.setIfInBounds_toArray, List.set_cons_zero, List.set_cons_succ]
                        refine take_at (i := 27) 80 (v := ?v1028) rfl rfl (by kernel_rfl) (by kernel_rfl) (by kernel_rfl) (fun _ _ _ h => h) (Or.inl ⟨by rfl, ?y1028⟩) hHeld ?r1028
                        case y1028 => (intro w' hSw; skip; go_simp; (try with_reducible rfl))
                        try simp only [Act.put, List.setIfInBounds_toArray, List.set_cons_zero, List.set_cons_succ]
                        obtain ⟨⟨hz, z0, z1, z2⟩, f0, f1, f2, hrb⟩ := id HZpxaccc.out
                        refine wpAnyH_ready (rs := [29]) (by kernel_rfl) (by simp) ?_
                        refine AllReadyH.cons rfl (fun K hK => ?_) AllReadyH.nil
                        go_simp
                        refine hK.out _ _ ?_ (fun hHeld => ?_)
                        · exact ((HLpxaccc.out.setCell (p := ⟨wd.heap.size, 0, none⟩) hrb _).setCell (p := ⟨wd.heap.size, 1, none⟩) hrb _).setCell (p := ⟨wd.heap.size, 2, none⟩) hrb _
                        clear hK K
                        refine wpAnyH_done (by kernel_rfl) ?_ _
                        go_wp2_with fail
                        go_meet
                        exact ⟨wd.heap.size, rfl, hrb, Row3c.set3 ⟨hz, z0, z1, z2⟩, ((HLpxaccc.out.setCell (p := ⟨wd.heap.size, 0, none⟩) hrb _).setCell (p := ⟨wd.heap.size, 1, none⟩) hrb _).setCell (p := ⟨wd.heap.size, 2, none⟩) hrb _⟩
              case rest =>
                obtain ⟨rb, rfl, hrb, hR3, hbx⟩ := hcut
                have HR3 : Hid (Row3c wc rb (.int .i64 c0) (.int .i64 c1) (.int .i64 c2)) := hR3
                have HBX : Hid (Below wr.heap.size wr wc) := hbx
                obtain ⟨hrb2, k0, k1, k2⟩ := hR3
                have hszc : wr.heap.size ≤ wc.heap.size := HBX.out.size
                have HOA : Hid (OwnRR (wc.alloc (.cells #[.int .i64 c0, .int .i64 c1, .int .i64 c2] 99)) wk.heap.size (.slice a6 i c6) L) := HOL.out.below (bl_alloc HBX.out _)
                have HNA : Hid (∀ j u, (encR (c0, c1, c2))[j]? = some u → (wc.alloc (.cells #[.int .i64 c0, .int .i64 c1, .int .i64 c2] 99)).cell? ((⟨wc.heap.size, 0, none⟩ : Addr).add j) = some u) := one_row wc c0 c1 c2
                have hBA : wk.heap.size ≤ (wc.alloc (.cells #[.int .i64 c0, .int .i64 c1, .int .i64 c2] 99)).heap.size := by simp; omega
                have hLN : L.length + 1 = i + 1 := by rw [HLI.out]
                have HGl : Hid (∀ g, (Value.slice a6 i c6).ownBlock = some g → wk.heap.size ≤ g ∧ g < wr.heap.size) := fun g hg => HOL.out.2 g hg
                clear HKK HID0 HID1 HID2 hbx
                go_wp2_with (refine appR rfl (.tmp 83) (.tmp 85) rfl wk.heap.size (.slice a6 i c6) L rfl HOA ⟨wc.heap.size, 0, none⟩ 1 (c0, c1, c2) rfl HNA (i + 1) hLN (by omega) hBA ?_; intro g6 q6 w5 HO5 HG5 HAT5 HB5)
                have hs5 : wc.heap.size + 1 ≤ w5.heap.size := by have := HG5.out.size; simpa using this
                have hne6 : rb ≠ g6 := by
                  rcases HAT5.out with h | h
                  · have := HGl.out g6 h
                    omega
                  · simp at h
                    omega
                have HR5 : Hid (Row3c w5 rb (.int .i64 c0) (.int .i64 c1) (.int .i64 c2)) := by
                  have h1 : ∀ o, w5.cell? ⟨rb, o, none⟩ = wc.cell? ⟨rb, o, none⟩ := fun o => (HG5.out.cell_far ⟨rb, o, none⟩ (by simp; omega) (fun e => by have := HGl.out rb e.symm; omega)).trans ((bl_a _ : Below wc.heap.size wc _).cell (p := ⟨rb, o, none⟩) hrb2)
                  exact ⟨by omega, (h1 0).trans k0, (h1 1).trans k1, (h1 2).trans k2⟩
                have HBk5 : Hid (Below wk.heap.size wk w5) := (HBk.out.trans ((bl_alloc HBX.out _).mono hszr)).trans HB5.out
                have hg6 : wk.heap.size ≤ g6 := (HO5.out.2 g6 rfl).1
                have HO50 : Hid (OwnRR w5 wk.heap.size (Value.slice (some ⟨g6, 0, none⟩) (i + 1) q6) (L.take i ++ (c0, c1, c2) :: L.drop i)) := by
                  rw [List.take_of_length_le (by rw [HLI.out]; exact Nat.le_refl _), List.drop_of_length_le (by rw [HLI.out]; exact Nat.le_refl _)]
                  exact HO5
                clear HOA HNA hBA hLN HG5 HAT5 HO5 k0 k1 k2 HOL HB5
                go_loopw [9] (fun s9 wq => ∃ (j : Nat) (x : Int × Int × Int), j ≤ i ∧ s9 = .int .i64 j ∧ Hid (OwnRR wq wk.heap.size (Value.slice (some ⟨g6, 0, none⟩) (i + 1) q6) (L.take j ++ x :: L.drop j)) ∧ Hid (∀ q (h : q < L.length), j ≤ q → rcmp k (c0, c1, c2) L[q] ≤ 0) ∧ Hid (Row3c wq rb (.int .i64 c0) (.int .i64 c1) (.int .i64 c2)) ∧ Hid (Below wk.heap.size wk wq))
                  (fun s9 _ => (intOf s9).toNat)
                case atStart => exact ⟨i, (c0, c1, c2), Nat.le_refl _, rfl, HO50, fun q hq hle => (by rw [HLI.out] at hq; omega), HR5, HBk5⟩
                case round =>
                  obtain ⟨j, x, hj, rfl, HOq, HGE, HRq, HBq⟩ := hrel
                  by_cases hj0 : 0 < j
                  rotate_left
                  · have hjz : ¬ (0 : Int) < (j : Int) := by omega
                    have hjd : decide ((0 : Int) < (j : Int)) = false := by simp; omega
                    have HJ0 : Hid (¬ 0 < j) := hj0
                    have hji : (j : Int) < (i : Int) + 1 := by omega
                    clear HO50 HR5 HBk5 hjz hjd
                    go_wp2_with fail
                    refine wp_region_held_drew (S := fun w' => Below wr.heap.size wr w') (by kernel_rfl) ?_ (fun hHeld => ?_)
                    · exact Below.drew (Below.refl _ _)
                    refine take_at (i := 0) 87 (v := ?v1029) rfl rfl (by kernel_rfl) (by kernel_rfl) (by kernel_rfl) (fun _ _ _ h => h) (Or.inl ⟨by rfl, ?y1029⟩) hHeld ?r1029
                    case y1029 => (intro w' hSw; skip; go_simp; (try with_reducible rfl))
                    try simp only [Act.put, List.setIfInBounds_toArray, List.set_cons_zero, List.set_cons_succ]
                    refine take_at (i := 1) 88 (v := ?v1030) rfl rfl (by kernel_rfl) (by kernel_rfl) (by kernel_rfl) (fun _ _ _ h => h) (Or.inl ⟨by rfl, ?y1030⟩) hHeld ?r1030
                    case y1030 => (intro w' hSw; skip; go_simp; (try with_reducible rfl))
                    try simp only [Act.put, List.setIfInBounds_toArray, List.set_cons_zero, List.set_cons_succ]
                    refine take_at (i := 2) 89 (v := ?v1031) rfl rfl (by kernel_rfl) (by kernel_rfl) (by kernel_rfl) (fun _ _ _ h => h) (Or.inl ⟨by rfl, ?y1031⟩) hHeld ?r1031
                    case y1031 => (intro w' hSw; skip; go_simp; (try with_reducible rfl))
                    try simp only [Act.put, List.setIfInBounds_toArray, List.set_cons_zero, List.set_cons_succ]
                    refine take_at (i := 3) 90 (v := undef) rfl rfl (by kernel_rfl) (by kernel_rfl) (by kernel_rfl) (fun _ _ _ h => h) (Or.inr ⟨by rfl, rfl⟩) hHeld ?_
                    try simp only [Act.put, List.setIfInBounds_toArray, List.set_cons_zero, List.set_cons_succ]
                    refine take_at (i := 4) 91 (v := undef) rfl rfl (by kernel_rfl) (by kernel_rfl) (by kernel_rfl) (fun _ _ _ h => h) (Or.inr ⟨by rfl, rfl⟩) hHeld ?_
                    try simp only [Act.put, List.setIfInBounds_toArray, List.set_cons_zero, List.set_cons_succ]
                    refine take_at (i := 5) 92 (v := undef) rfl rfl (by kernel_rfl) (by kernel_rfl) (by kernel_rfl) (fun _ _ _ h => h) (Or.inr ⟨by rfl, rfl⟩) hHeld ?_
                    try simp only [Act.put, List.setIfInBounds_toArray, List.set_cons_zero, List.set_cons_succ]
                    refine take_at (i := 6) 93 (v := undef) rfl rfl (by kernel_rfl) (by kernel_rfl) (by kernel_rfl) (fun _ _ _ h => h) (Or.inr ⟨by rfl, rfl⟩) hHeld ?_
                    try simp only [Act.put, List.setIfInBounds_toArray, List.set_cons_zero, List.set_cons_succ]
                    refine take_at (i := 7) 94 (v := undef) rfl rfl (by kernel_rfl) (by kernel_rfl) (by kernel_rfl) (fun _ _ _ h => h) (Or.inr ⟨by rfl, rfl⟩) hHeld ?_
                    try simp only [Act.put, List.setIfInBounds_toArray, List.set_cons_zero, List.set_cons_succ]
                    refine take_at (i := 8) 95 (v := undef) rfl rfl (by kernel_rfl) (by kernel_rfl) (by kernel_rfl) (fun _ _ _ h => h) (Or.inr ⟨by rfl, rfl⟩) hHeld ?_
                    try simp only [Act.put, List.setIfInBounds_toArray, List.set_cons_zero, List.set_cons_succ]
                    refine take_at (i := 9) 96 (v := undef) rfl rfl (by kernel_rfl) (by kernel_rfl) (by kernel_rfl) (fun _ _ _ h => h) (Or.inr ⟨by rfl, rfl⟩) hHeld ?_
                    try simp only [Act.put, List.setIfInBounds_toArray, List.set_cons_zero, List.set_cons_succ]
                    refine take_at (i := 10) 97 (v := undef) rfl rfl (by kernel_rfl) (by kernel_rfl) (by kernel_rfl) (fun _ _ _ h => h) (Or.inr ⟨by rfl, rfl⟩) hHeld ?_
                    try simp only [Act.put, List.setIfInBounds_toArray, List.set_cons_zero, List.set_cons_succ]
                    refine take_at (i := 11) 98 (v := ?v1032) rfl rfl (by kernel_rfl) (by kernel_rfl) (by kernel_rfl) (fun _ _ _ h => h) (Or.inl ⟨by rfl, ?y1032⟩) hHeld ?r1032
                    case y1032 => (intro w' hSw; skip; go_simp; (try with_reducible rfl))
                    try simp only [Act.put, List.setIfInBounds_toArray, List.set_cons_zero, List.set_cons_succ]
                    refine wpAnyH_done (by kernel_rfl) ?_ _
                    have HOz : Hid (OwnRR wr.drew wk.heap.size (Value.slice (some ⟨g6, 0, none⟩) (i + 1) q6) (L.take j ++ x :: L.drop j)) := HOq.out.below (Below.drew (Below.refl _ _))
                    have HRz : Hid (Row3c wr.drew rb (.int .i64 c0) (.int .i64 c1) (.int .i64 c2)) := HRq.out.below (Below.drew (Below.refl _ _))
                    have HBz : Hid (Below wk.heap.size wk wr.drew) := Below.drew HBq.out
                    clear hHeld
                    generalize wr.drew = wz at *
                    obtain ⟨m0, m1, m2⟩ := ownR_at HOz.out j x (mid_row HLI.out (by omega))
                    have f0 := ownR_fr HOz.out (j * 3)
                    have f1 := ownR_fr HOz.out (j * 3 + 1)
                    have f2 := ownR_fr HOz.out (j * 3 + 2)
                    obtain ⟨_, k0, k1, k2⟩ := HRz.out
                    have HN1 : Hid (OwnRR (((wz.setCell ⟨g6, j * 3, none⟩ (.int .i64 c0)).setCell ⟨g6, j * 3 + 1, none⟩ (.int .i64 c1)).setCell ⟨g6, j * 3 + 2, none⟩ (.int .i64 c2)) wk.heap.size (Value.slice (some ⟨g6, 0, none⟩) (i + 1) q6) (L.take j ++ (c0, c1, c2) :: L.drop j)) := by
                      have h := ownR_set HOz.out j (by simp; omega) (c0, c1, c2)
                      rw [lay_row (by rw [HLI.out]; omega)] at h
                      exact h
                    have HN2 : Hid ((L.take j ++ (c0, c1, c2) :: L.drop j).Perm (gRows (lT.map TB.td) T U V bt bu bv (i + 1)) ∧ (L.take j ++ (c0, c1, c2) :: L.drop j).Pairwise (fun x y => rcmp k x y ≤ 0)) := by
                      refine ⟨?_, put_rows HPL.out.2 (by rw [HLI.out]; omega) (fun h => absurd h HJ0.out) HGE.out⟩
                      rw [gRows_succ]
                      have e9 : ((idOf (lT.map TB.td) (TB.mk (T i) (bt i)).td : Int), (idOf (lT.map TB.td) (TB.mk (U i) (bu i)).td : Int), (idOf (lT.map TB.td) (TB.mk (V i) (bv i)).td : Int)) = (c0, c1, c2) := by rw [HC0.out, HC1.out, HC2.out]
                      rw [e9]
                      exact put_perm.trans (HPL.out.1.append_right _)
                    have HN3 : Hid (Below wk.heap.size wk (((wz.setCell ⟨g6, j * 3, none⟩ (.int .i64 c0)).setCell ⟨g6, j * 3 + 1, none⟩ (.int .i64 c1)).setCell ⟨g6, j * 3 + 2, none⟩ (.int .i64 c2))) := HBz.out.trans (but3.below hg6)
                    skip
                    go_wp2
                    go_roundw
                    case rel => exact ⟨i + 1, (Value.slice (some ⟨g6, 0, none⟩) (i + 1) q6), _, by omega, rfl, by go_num, HN1, HN2, HN3⟩
                    case measure => simp [intOf]; omega
                  · obtain ⟨jj, rfl⟩ : ∃ jj, j = jj + 1 := ⟨j - 1, by omega⟩
                    clear hj0
                    have hjl : jj < L.length := by rw [HLI.out]; omega
                    obtain ⟨y, hy⟩ : ∃ y, y = L[jj] := ⟨_, rfl⟩
                    have HYJ : Hid (y = L[jj]) := hy
                    have hyat : (L.take (jj + 1) ++ x :: L.drop (jj + 1))[jj]? = some y := by rw [hy]; exact ahead_row (by omega) (by omega)
                    have HYA : Hid ((L.take (jj + 1) ++ x :: L.drop (jj + 1))[jj]? = some y) := hyat
                    have cy := fun d os => ownR_at (HOq.out.below (bl_regrown (w := wr) d os)) jj y hyat
                    have cr := fun d os => HRq.out.below (bl_regrown (w := wr) d os)
                    have a1 := fun d os => (cy d os).1
                    have a2 := fun d os => (cy d os).2.1
                    have a3 := fun d os => (cy d os).2.2
                    have b1 := fun d os => (cr d os).2.1
                    have b2 := fun d os => (cr d os).2.2.1
                    have b3 := fun d os => (cr d os).2.2.2
                    have C := fun d os => Calls.regrown_of (l3less_any (c0, c1, c2) y k (Go.Sort.grow (redrawn wr d) os) hlk)
                    obtain ⟨qb, hqb⟩ : ∃ qb, qb = decide (rcmp k (c0, c1, c2) y < 0) := ⟨_, rfl⟩
                    have HQB : Hid (qb = decide (rcmp k (c0, c1, c2) y < 0)) := hqb
                    rw [← hqb] at C
                    obtain ⟨y1, y2, y3⟩ := y
                    dsimp only at a1 a2 a3 C
                    have hwj : IntKind.i64.wrap (jj : Int) = (jj : Int) := IntWalk.i64_in _ (by omega)
                    have hjz : (0 : Int) < (jj : Int) + 1 := by omega
                    have hji : (jj : Int) < (i : Int) + 1 := by omega
                    have hji2 : (jj : Int) + 1 < (i : Int) + 1 := by omega
                    clear cy cr hyat hy hqb HO50 HR5 HBk5
                    rw [show ((jj + 1 : Nat) : Int) = (jj : Int) + 1 from by push_cast; rfl]
                    go_wp2_with fail
                    refine wp_region_quiet_below (by kernel_rfl) (by kernel_rfl) ?_
                    quiet_step (fail)
                    quiet_step (fail)
                    quiet_step (fail)
                    quiet_step (fail)
                    quiet_step (fail)
                    quiet_step (fail)
                    quiet_step (fail)
                    quiet_step (fail)
                    quiet_step (fail)
                    quiet_step (fail)
                    quiet_step (exact C _ _)
                    quiet_step (fail)
                    refine wpQuiet_nil ?_
                    intro _ hw'
                    obtain ⟨⟨dq, osq⟩, hw''⟩ := hw'
                    subst hw''
                    have HOz : Hid (OwnRR (Go.Sort.grow (redrawn wr dq) osq) wk.heap.size (Value.slice (some ⟨g6, 0, none⟩) (i + 1) q6) (L.take (jj + 1) ++ x :: L.drop (jj + 1))) := HOq.out.below (bl_regrown (w := wr) dq osq)
                    have HRz : Hid (Row3c (Go.Sort.grow (redrawn wr dq) osq) rb (.int .i64 c0) (.int .i64 c1) (.int .i64 c2)) := HRq.out.below (bl_regrown (w := wr) dq osq)
                    have HBz : Hid (Below wk.heap.size wk (Go.Sort.grow (redrawn wr dq) osq)) := HBq.out.trans ((bl_regrown (w := wr) dq osq).mono HBq.out.size)
                    dsimp only
                    generalize Go.Sort.grow (redrawn wr dq) osq = wz at *
                    clear a1 a2 a3 b1 b2 b3 C
                    cases qb with
                    | false =>
                      have hge : rcmp k (y1, y2, y3) (c0, c1, c2) ≤ 0 := by
                        have h1 := of_decide_eq_false HQB.out.symm
                        have h2 := (ord_rcmp k).anti (c0, c1, c2) (y1, y2, y3)
                        omega
                      have HGEY : Hid (rcmp k (L[jj]'(by rw [HLI.out]; omega)) (c0, c1, c2) ≤ 0) := by
                        show rcmp k L[jj] (c0, c1, c2) ≤ 0
                        rw [← HYJ.out]
                        exact hge
                      clear hge
                      obtain ⟨m0, m1, m2⟩ := ownR_at HOz.out (jj + 1) x (mid_row HLI.out (by omega))
                      have f0 := ownR_fr HOz.out ((jj + 1) * 3)
                      have f1 := ownR_fr HOz.out ((jj + 1) * 3 + 1)
                      have f2 := ownR_fr HOz.out ((jj + 1) * 3 + 2)
                      obtain ⟨_, k0, k1, k2⟩ := HRz.out
                      have HN1 : Hid (OwnRR (((wz.setCell ⟨g6, (jj + 1) * 3, none⟩ (.int .i64 c0)).setCell ⟨g6, (jj + 1) * 3 + 1, none⟩ (.int .i64 c1)).setCell ⟨g6, (jj + 1) * 3 + 2, none⟩ (.int .i64 c2)) wk.heap.size (Value.slice (some ⟨g6, 0, none⟩) (i + 1) q6) (L.take (jj + 1) ++ (c0, c1, c2) :: L.drop (jj + 1))) := by
                        have h := ownR_set HOz.out (jj + 1) (by simp; omega) (c0, c1, c2)
                        rw [lay_row (by rw [HLI.out]; omega)] at h
                        exact h
                      have HN2 : Hid ((L.take (jj + 1) ++ (c0, c1, c2) :: L.drop (jj + 1)).Perm (gRows (lT.map TB.td) T U V bt bu bv (i + 1)) ∧ (L.take (jj + 1) ++ (c0, c1, c2) :: L.drop (jj + 1)).Pairwise (fun x y => rcmp k x y ≤ 0)) := by
                        refine ⟨?_, put_rows HPL.out.2 (by rw [HLI.out]; omega) (fun _ => HGEY.out) HGE.out⟩
                        rw [gRows_succ]
                        have e9 : ((idOf (lT.map TB.td) (TB.mk (T i) (bt i)).td : Int), (idOf (lT.map TB.td) (TB.mk (U i) (bu i)).td : Int), (idOf (lT.map TB.td) (TB.mk (V i) (bv i)).td : Int)) = (c0, c1, c2) := by rw [HC0.out, HC1.out, HC2.out]
                        rw [e9]
                        exact put_perm.trans (HPL.out.1.append_right _)
                      have HN3 : Hid (Below wk.heap.size wk (((wz.setCell ⟨g6, (jj + 1) * 3, none⟩ (.int .i64 c0)).setCell ⟨g6, (jj + 1) * 3 + 1, none⟩ (.int .i64 c1)).setCell ⟨g6, (jj + 1) * 3 + 2, none⟩ (.int .i64 c2))) := HBz.out.trans (but3.below hg6)
                      skip
                      go_wp2
                      go_roundw
                      case rel => exact ⟨i + 1, (Value.slice (some ⟨g6, 0, none⟩) (i + 1) q6), _, by omega, rfl, by go_num, HN1, HN2, HN3⟩
                      case measure => simp [intOf]; omega
                    | true =>
                      have hlt0 : rcmp k (c0, c1, c2) (y1, y2, y3) < 0 := of_decide_eq_true HQB.out.symm
                      have HLT0 : Hid (rcmp k (c0, c1, c2) (L[jj]'(by rw [HLI.out]; omega)) ≤ 0) := by
                        show rcmp k (c0, c1, c2) L[jj] ≤ 0
                        rw [← HYJ.out]
                        omega
                      obtain ⟨e0, e1, e2⟩ := ownR_at HOz.out jj (y1, y2, y3) HYA.out
                      obtain ⟨m0, m1, m2⟩ := ownR_at HOz.out (jj + 1) x (mid_row HLI.out (by omega))
                      have f0 := ownR_fr HOz.out ((jj + 1) * 3)
                      have f1 := ownR_fr HOz.out ((jj + 1) * 3 + 1)
                      have f2 := ownR_fr HOz.out ((jj + 1) * 3 + 2)
                      dsimp only at e0 e1 e2
                      have HN1 : Hid (OwnRR (((wz.setCell ⟨g6, (jj + 1) * 3, none⟩ (.int .i64 y1)).setCell ⟨g6, (jj + 1) * 3 + 1, none⟩ (.int .i64 y2)).setCell ⟨g6, (jj + 1) * 3 + 2, none⟩ (.int .i64 y3)) wk.heap.size (Value.slice (some ⟨g6, 0, none⟩) (i + 1) q6) (L.take jj ++ (y1, y2, y3) :: L.drop jj)) := by
                        have h := ownR_set HOz.out (jj + 1) (by simp; omega) (y1, y2, y3)
                        rw [HYJ.out] at h ⊢
                        have e := shift_row (l := L) (x := x) (j := jj + 1) (by omega) (by rw [HLI.out]; omega)
                        simp only [Nat.add_sub_cancel] at e
                        rw [e] at h
                        rw [← HYJ.out] at h ⊢
                        exact h
                      have HN3 : Hid (Below wk.heap.size wk (((wz.setCell ⟨g6, (jj + 1) * 3, none⟩ (.int .i64 y1)).setCell ⟨g6, (jj + 1) * 3 + 1, none⟩ (.int .i64 y2)).setCell ⟨g6, (jj + 1) * 3 + 2, none⟩ (.int .i64 y3))) := HBz.out.trans (but3.below hg6)
                      have HN4 : Hid (Row3c (((wz.setCell ⟨g6, (jj + 1) * 3, none⟩ (.int .i64 y1)).setCell ⟨g6, (jj + 1) * 3 + 1, none⟩ (.int .i64 y2)).setCell ⟨g6, (jj + 1) * 3 + 2, none⟩ (.int .i64 y3)) rb (.int .i64 c0) (.int .i64 c1) (.int .i64 c2)) := HRz.out.but but3 hne6
                      have HN5 : Hid (∀ q (h : q < L.length), jj ≤ q → rcmp k (c0, c1, c2) L[q] ≤ 0) := by
                        intro q hq hle
                        by_cases e : q = jj
                        · subst e
                          exact HLT0.out
                        · exact HGE.out q hq (by omega)
                      clear hlt0
                      go_wp2
                      go_roundw
                      case rel => exact ⟨jj, (y1, y2, y3), by omega, by go_num, HN1, HN5, HN4, HN3⟩
                      case measure => simp [intOf]
            · obtain rfl : n = i := by omega
              have HVL : Hid (vs.length = k) := HO.out.len
              have hvl : vs.length + 1 = k + 1 := by rw [HVL.out]
              have hbA : Below wk.heap.size wk (wr.alloc (.cells #[Value.slice a6 n c6] 57)) := bl_alloc HBk.out _
              have HBA : Hid (Below wk.heap.size wk (wr.alloc (.cells #[Value.slice a6 n c6] 57))) := hbA
              have HOA : Hid (OwnV (wr.alloc (.cells #[Value.slice a6 n c6] 57)) wL.heap.size vR vs) := HO.out.own.grown (grown_of_below (row := none) hbA) (fun g _ => by simp)
              have HNA : Hid (∀ j u, ([(Value.slice a6 n c6)] : List Value)[j]? = some u → (wr.alloc (.cells #[Value.slice a6 n c6] 57)).cell? ((⟨wr.heap.size, 0, none⟩ : Addr).add j) = some u) := one_value wr _
              have hBA : wL.heap.size ≤ (wr.alloc (.cells #[Value.slice a6 n c6] 57)).heap.size := by simp; omega
              have HGl : Hid (∀ g, vR.ownBlock = some g → wL.heap.size ≤ g ∧ g < wk.heap.size) := fun g hg => HO.out.own.2 g hg
              have y1 : wr.cell? ⟨(w.heap.size + 1 + 1), 1, none⟩ = some vR := (HBk.out.cell (p := ⟨(w.heap.size + 1 + 1), 1, none⟩) (by show (w.heap.size + 1 + 1) < _; omega)).trans HSK.out.2.1
              have HZ9 : Hid (∀ w9, (wr.alloc (.cells #[Value.slice a6 n c6] 57)).grownBy w9 vR.ownBlock → w9.cell? ⟨(w.heap.size + 1 + 1), 1, none⟩ = some vR ∧ w9.frozen? ⟨(w.heap.size + 1 + 1), 1, none⟩ = false ∧ w9.cell? ⟨(w.heap.size + 1 + 1), 0, none⟩ = some (Value.slice (some ⟨gT, 0, none⟩) nT capT) ∧ w9.frozen? ⟨(w.heap.size + 1 + 1), 0, none⟩ = false) := by
                intro w9 hgr
                have hc : ∀ o, w9.cell? ⟨(w.heap.size + 1 + 1), o, none⟩ = wk.cell? ⟨(w.heap.size + 1 + 1), o, none⟩ := fun o => (hgr.cell_far ⟨(w.heap.size + 1 + 1), o, none⟩ (by simp; omega) (fun e => by have := HGl.out (w.heap.size + 1 + 1) e.symm; omega)).trans (hbA.cell (p := ⟨(w.heap.size + 1 + 1), o, none⟩) (by show (w.heap.size + 1 + 1) < _; omega))
                have hf : ∀ o, w9.frozen? ⟨(w.heap.size + 1 + 1), o, none⟩ = wk.frozen? ⟨(w.heap.size + 1 + 1), o, none⟩ := fun o => (hgr.frozen_far ⟨(w.heap.size + 1 + 1), o, none⟩ (by simp; omega) (fun e => by have := HGl.out (w.heap.size + 1 + 1) e.symm; omega)).trans (hbA.frozen (p := ⟨(w.heap.size + 1 + 1), o, none⟩) (by show (w.heap.size + 1 + 1) < _; omega))
                exact ⟨(hc 1).trans HSK.out.2.1, (hf 1).trans HSK.out.2.2.2, (hc 0).trans HSK.out.1, (hf 0).trans HSK.out.2.2.1⟩
              have hliz : ¬ (n : Int) < (n : Int) := by omega
              clear hbA hq0 hq2
              go_wp2_with (refine appV rfl (.tmp 114) (.tmp 116) rfl wL.heap.size vR vs rfl HOA ⟨wr.heap.size, 0, none⟩ 1 (Value.slice a6 n c6) rfl HNA rfl (k + 1) hvl (by omega) hBA ?_; intro g2 q2 w9 HOW HGR HAT HLT; obtain ⟨z0, z1, z2, z3⟩ := HZ9.out w9 HGR.out)
              have hk9 : Kept (w.heap.size + 1 + 1) vR.ownBlock wk w9 := ((Kept.refl _ _ _).below HBA.out).grown HGR.out
              have hor : Orders w9 wL.heap.size (.slice (some ⟨g2, 0, none⟩) (k + 1) q2) (gRows (lT.map TB.td) T U V bt bu bv n) (k + 1) (vs ++ [Value.slice a6 n c6]) := by
                have hown := HOW.out
                have e := HVL.out
                have h := HO.out.more (cap := q2) HOL.out HPL.out.1 HPL.out.2 HBk.out (bl_a _) hszk HGR.out (by rw [e]; exact hown) HAT.out HLT.out
                rw [e] at h
                exact h
              have HN1 : Hid ((w9.setCell ⟨(w.heap.size + 1 + 1), 1, none⟩ (.slice (some ⟨g2, 0, none⟩) (k + 1) q2)).cell? ⟨(w.heap.size + 1 + 1), 0, none⟩ = some (Value.slice (some ⟨gT, 0, none⟩) nT capT) ∧ (w9.setCell ⟨(w.heap.size + 1 + 1), 1, none⟩ (.slice (some ⟨g2, 0, none⟩) (k + 1) q2)).cell? ⟨(w.heap.size + 1 + 1), 1, none⟩ = some (.slice (some ⟨g2, 0, none⟩) (k + 1) q2) ∧ (w9.setCell ⟨(w.heap.size + 1 + 1), 1, none⟩ (.slice (some ⟨g2, 0, none⟩) (k + 1) q2)).frozen? ⟨(w.heap.size + 1 + 1), 0, none⟩ = false ∧ (w9.setCell ⟨(w.heap.size + 1 + 1), 1, none⟩ (.slice (some ⟨g2, 0, none⟩) (k + 1) q2)).frozen? ⟨(w.heap.size + 1 + 1), 1, none⟩ = false) := ⟨(set_other (by omega)).trans z2, set_same z0, by rw [World.frozen?_setCell]; exact z3, by rw [World.frozen?_setCell]; exact z1⟩
              have HN2 : Hid (Orders (w9.setCell ⟨(w.heap.size + 1 + 1), 1, none⟩ (.slice (some ⟨g2, 0, none⟩) (k + 1) q2)) wL.heap.size (.slice (some ⟨g2, 0, none⟩) (k + 1) q2) (gRows (lT.map TB.td) T U V bt bu bv n) (k + 1) (vs ++ [Value.slice a6 n c6])) := hor.grown (grown_set _ _ _ _) (fun g hg => by cases hg; omega)
              have HN3 : Hid (Kept (w.heap.size + 1 + 1) none wL (w9.setCell ⟨(w.heap.size + 1 + 1), 1, none⟩ (.slice (some ⟨g2, 0, none⟩) (k + 1) q2)) ∧ Below (w.heap.size + 1 + 1) wL (w9.setCell ⟨(w.heap.size + 1 + 1), 1, none⟩ (.slice (some ⟨g2, 0, none⟩) (k + 1) q2))) := by
                refine ⟨HK.out.1.none_of (hk9.set 1 _) (fun g hg => (HGl.out g hg).1), ?_⟩
                have h9 : Below (w.heap.size + 1 + 1) wL w9 := (HK.out.2.trans (HBA.out.mono (by omega))).grown HGR.out (by simp; omega) (fun j hj => by have := HGl.out j hj; omega)
                exact h9.setCell (p := ⟨(w.heap.size + 1 + 1), 1, none⟩) (Nat.le_refl _) _
              clear z0 z1 z2 z3 hk9 hor
              go_wp2
              go_roundw
              case rel => exact ⟨k + 1, _, _, by omega, by go_num, HN1, HN2, HN3⟩
              case measure => simp [intOf]; omega
        · obtain rfl : k = 6 := by omega
          have HOT6 : Hid (OwnTR wr (w.heap.size + 1 + 1 + 1) (Value.slice (some ⟨gT, 0, none⟩) nT capT) lT) := HOT.out.kept HK.out.1 (by omega)
          have hszw : wL.heap.size ≤ wr.heap.size := HK.out.1.size
          have HSB6 : Hid (∀ wq, Below (w.heap.size + 1 + 1) wL wq → wq.cell? ⟨w.heap.size + 1, 0, none⟩ = some (.slice none 0 0) ∧ wq.cell? ⟨w.heap.size + 1, 1, none⟩ = some (.slice none 0 0) ∧ wq.frozen? ⟨w.heap.size + 1, 0, none⟩ = false ∧ wq.frozen? ⟨w.heap.size + 1, 1, none⟩ = false ∧ Below w.heap.size w wq) := by
            intro wq hb
            have hall : Below (w.heap.size + 1 + 1) (((w.alloc (.cells #[.slice (some ⟨b, off, none⟩) n cap] 34)).alloc (.cells #[.slice none 0 0, .slice none 0 0] 29)).alloc (.cells #[.slice none 0 0, .slice none 0 0] 29)) wq := HB.out.trans (hb.mono (by omega))
            exact ⟨(hall.cell (p := ⟨w.heap.size + 1, 0, none⟩) (Nat.lt_succ_self _)).trans (by simp [go_sem]), (hall.cell (p := ⟨w.heap.size + 1, 1, none⟩) (Nat.lt_succ_self _)).trans (by simp [go_sem]), (hall.frozen (p := ⟨w.heap.size + 1, 0, none⟩) (Nat.lt_succ_self _)).trans (by simp [go_sem]), (hall.frozen (p := ⟨w.heap.size + 1, 1, none⟩) (Nat.lt_succ_self _)).trans (by simp [go_sem]), HW.out wq hall⟩
          have HTX6 : Hid (∀ y ∈ lT, Bs wr y.t.a y.t.len y.b ∧ (y.t.len = 0 ∨ ∀ p, y.t.a = some p → p.block < w.heap.size ∨ wL.heap.size ≤ p.block)) := fun y hy => ⟨(HTG.out y hy).2.below (HSB6.out wr HK.out.2).2.2.2.2, (HTG.out y hy).2.low.imp id (fun h p hp => .inl (h p hp))⟩
          obtain ⟨y0, _, _, _⟩ := id HSK.out
          go_wp2
          go_loopw [10] (fun s10 wq => ∃ (j : Nat) (Lc : List TB), j ≤ nT ∧ s10 = .int .i64 j ∧ Hid (OwnTR wq (w.heap.size + 1 + 1 + 1) (Value.slice (some ⟨gT, 0, none⟩) nT capT) Lc ∧ Lc.map TB.td = lT.map TB.td ∧ ∀ y ∈ Lc, Bs wq y.t.a y.t.len y.b ∧ (y.t.len = 0 ∨ ∀ p, y.t.a = some p → p.block < w.heap.size ∨ wL.heap.size ≤ p.block)) ∧ Hid (wq.cell? ⟨(w.heap.size + 1 + 1), 0, none⟩ = some (Value.slice (some ⟨gT, 0, none⟩) nT capT) ∧ wq.cell? ⟨(w.heap.size + 1 + 1), 1, none⟩ = some vR ∧ wq.frozen? ⟨(w.heap.size + 1 + 1), 0, none⟩ = false ∧ wq.frozen? ⟨(w.heap.size + 1 + 1), 1, none⟩ = false) ∧ Hid (Orders wq wL.heap.size vR (gRows (lT.map TB.td) T U V bt bu bv n) 6 vs) ∧ Hid (Below (w.heap.size + 1 + 1) wL wq))
            (fun s10 _ => nT - (intOf s10).toNat)
          case atStart => exact ⟨0, lT, Nat.zero_le _, rfl, ⟨HOT6.out, rfl, HTX6.out⟩, HSK, HO, HK.out.2⟩
          case round =>
            obtain ⟨j, Lc, hj, rfl, HOC, HSQ, HOQ, HBQ⟩ := hrel
            clear y0
            obtain ⟨y0, y1, y2, y3⟩ := id HSQ.out
            have HLC : Hid (Lc.length = nT) := by
              have := congrArg List.length HOC.out.2.1
              rw [List.length_map, List.length_map, ← HNT.out] at this
              exact this
            have hszq : wL.heap.size ≤ wr.heap.size := HBQ.out.size
            by_cases hlj : j < nT
            · have hljz : (j : Int) < (nT : Int) := by omega
              obtain ⟨x, hx⟩ : ∃ x, Lc[j]? = some x := ⟨_, List.getElem?_eq_getElem (by rw [HLC.out]; exact hlj)⟩
              have HXJ : Hid (Lc[j]? = some x) := hx
              obtain ⟨m0, m1, m2, m3⟩ := ownT_at HOC.out.1 j x hx
              have hxm : x ∈ Lc := List.mem_of_getElem? hx
              have HOWN : Hid (∀ W, Below wr.heap.size wr W → Calls Tryz.prog 77 #[.agg #[.int .i64 x.t.k, .slice x.t.a x.t.len x.t.cap, .int .i64 x.t.n, .int .i64 x.t.s]] W fun e w' => ∃ a' cap', e = .returned (.agg #[.int .i64 x.t.k, .slice a' x.t.len cap', .int .i64 x.t.n, .int .i64 x.t.s]) ∧ Bs w' a' x.t.len x.b ∧ (∀ p, a' = some p → W.heap.size ≤ p.block) ∧ Below W.heap.size W w') := fun W hb => l2ownTerm_any x W ((HOC.out.2.2 x hxm).1.below hb)
              have HBX0 : Hid (∀ w', Kept gT none wr w' → w'.cell? ⟨(w.heap.size + 1 + 1), 0, none⟩ = some (Value.slice (some ⟨gT, 0, none⟩) nT capT)) := fun w' hk' => (hk'.cell (by omega) (by omega) (by simp)).trans HSQ.out.1
              clear hx hxm
              go_wp2_with fail
              refine wp_region_held_drew (S := fun w' => Kept gT none wr w') (by kernel_rfl) ?_ (fun hHeld => ?_)
              · exact Kept.drew0 _ _ _
              refine take_at (i := 0) 126 (v := ?v1033) rfl rfl (by kernel_rfl) (by kernel_rfl) (by kernel_rfl) (fun _ _ _ h => h) (Or.inl ⟨by rfl, ?y1033⟩) hHeld ?r1033
              case y1033 => (intro w' hSw; skip; go_simp; (try with_reducible rfl))
              try simp only [Act.put, List.setIfInBounds_toArray, List.set_cons_zero, List.set_cons_succ]
              refine take_at (i := 1) 127 (v := ?v1034) rfl rfl (by kernel_rfl) (by kernel_rfl) (by kernel_rfl) (fun _ _ _ h => h) (Or.inl ⟨by rfl, ?y1034⟩) hHeld ?r1034
              case y1034 => (intro w' hSw; have hb0 := HBX0.out w' hSw; go_simp; (try with_reducible rfl))
              try simp only [Act.put, List.setIfInBounds_toArray, List.set_cons_zero, List.set_cons_succ]
              refine take_at (i := 2) 128 (v := ?v1035) rfl rfl (by kernel_rfl) (by kernel_rfl) (by kernel_rfl) (fun _ _ _ h => h) (Or.inl ⟨by rfl, ?y1035⟩) hHeld ?r1035
              case y1035 => (intro w' hSw; skip; go_simp; (try with_reducible rfl))
              try simp only [Act.put, List.setIfInBounds_toArray, List.set_cons_zero, List.set_cons_succ]
              refine take_at (i := 3) 129 (v := ?v1036) rfl rfl (by kernel_rfl) (by kernel_rfl) (by kernel_rfl) (fun _ _ _ h => h) (Or.inl ⟨by rfl, ?y1036⟩) hHeld ?r1036
              case y1036 => (intro w' hSw; skip; go_simp; (try with_reducible rfl))
              try simp only [Act.put, List.setIfInBounds_toArray, List.set_cons_zero, List.set_cons_succ]
              refine take_at (i := 4) 130 (v := ?v1037) rfl rfl (by kernel_rfl) (by kernel_rfl) (by kernel_rfl) (fun _ _ _ h => h) (Or.inl ⟨by rfl, ?y1037⟩) hHeld ?r1037
              case y1037 => (intro w' hSw; have hb0 := HBX0.out w' hSw; go_simp; (try with_reducible rfl))
              try simp only [Act.put, List.setIfInBounds_toArray, List.set_cons_zero, List.set_cons_succ]
              refine take_at (i := 5) 131 (v := ?v1038) rfl rfl (by kernel_rfl) (by kernel_rfl) (by kernel_rfl) (fun _ _ _ h => h) (Or.inl ⟨by rfl, ?y1038⟩) hHeld ?r1038
              case y1038 => (intro w' hSw; skip; go_simp; (try with_reducible rfl))
              try simp only [Act.put, List.setIfInBounds_toArray, List.set_cons_zero, List.set_cons_succ]
              refine take_at (i := 6) 132 (v := ?v1039) rfl rfl (by kernel_rfl) (by kernel_rfl) (by kernel_rfl) (fun _ _ _ h => h) (Or.inl ⟨by rfl, ?y1039⟩) hHeld ?r1039
              case y1039 => (intro w' hSw; skip; go_simp; (try with_reducible rfl))
              try simp only [Act.put, List.setIfInBounds_toArray, List.set_cons_zero, List.set_cons_succ]
              refine wpAnyH_ready (rs := [7]) (by kernel_rfl) (by simp) ?_
              refine AllReadyH.cons rfl (fun K hK => ?_) AllReadyH.nil
              go_simp
              refine hK.out _ _ ?_ (fun hHeld => ?_)
              · exact Kept.drew0 _ _ _
              clear hK K
              try simp only [Act.put, List.setIfInBounds_toArray, List.set_cons_zero, List.set_cons_succ]
              refine wpAnyH_ready (rs := [8]) (by kernel_rfl) (by simp) ?_
              refine AllReadyH.cons rfl (fun K hK => ?_) AllReadyH.nil
              go_simp
              refine (HOWN.out _ (Below.drew (Below.refl _ _))).mono ?_
              rintro e w7 ⟨a7, c7, rfl, hbs7, hbl7, hb7⟩
              have HB7 : Hid (Below wr.heap.size wr w7) := (Below.drew (Below.refl _ _)).trans hb7
              have HBS7 : Hid (Bs w7 a7 x.t.len x.b) := hbs7
              have HBL7 : Hid (∀ p, a7 = some p → wr.heap.size ≤ p.block) := hbl7
              have HO7 : Hid (OwnTR w7 (w.heap.size + 1 + 1 + 1) (Value.slice (some ⟨gT, 0, none⟩) nT capT) Lc) := HOC.out.1.below HB7.out
              obtain ⟨q0, q1, q2, q3⟩ := ownT_at HO7.out j x HXJ.out
              have g0 := ownT_fr HO7.out (j * 4)
              have g1 := ownT_fr HO7.out (j * 4 + 1)
              have g2 := ownT_fr HO7.out (j * 4 + 2)
              have g3 := ownT_fr HO7.out (j * 4 + 3)
              clear hbs7 hbl7 hb7
              go_wp2_with fail
              refine hK.out _ _ ?_ (fun hHeld => ?_)
              · exact (Kept.refl _ _ _).below HB7.out
              clear hK K
              try simp only [Act.put, List.setIfInBounds_toArray, List.set_cons_zero, List.set_cons_succ]
              refine take_at (i := 9) 135 (v := ?v1040) rfl rfl (by kernel_rfl) (by kernel_rfl) (by kernel_rfl) (fun _ _ _ h => h) (Or.inl ⟨by rfl, ?y1040⟩) hHeld ?r1040
              case y1040 => (intro w' hSw; skip; go_simp; (try with_reducible rfl))
              try simp only [Act.put, List.setIfInBounds_toArray, List.set_cons_zero, List.set_cons_succ]
              refine wpAnyH_ready (rs := [10]) (by kernel_rfl) (by simp) ?_
              refine AllReadyH.cons rfl (fun K hK => ?_) AllReadyH.nil
              go_simp
              refine hK.out _ _ ?_ (fun hHeld => ?_)
              · exact (((((Kept.refl _ _ _).below HB7.out).set _ _).set _ _).set _ _).set _ _
              clear hK K
              refine wpAnyH_done (by kernel_rfl) ?_ _
              have hbut : But gT w7 ((((w7.setCell ⟨gT, j * 4, none⟩ (.int .i64 x.t.k)).setCell ⟨gT, j * 4 + 1, none⟩ (.slice a7 x.t.len c7)).setCell ⟨gT, j * 4 + 2, none⟩ (.int .i64 x.t.n)).setCell ⟨gT, j * 4 + 3, none⟩ (.int .i64 x.t.s)) := ((((But.refl _ _).set _ _).set _ _).set _ _).set _ _
              have HN1 : Hid (OwnTR ((((w7.setCell ⟨gT, j * 4, none⟩ (.int .i64 x.t.k)).setCell ⟨gT, j * 4 + 1, none⟩ (.slice a7 x.t.len c7)).setCell ⟨gT, j * 4 + 2, none⟩ (.int .i64 x.t.n)).setCell ⟨gT, j * 4 + 3, none⟩ (.int .i64 x.t.s)) (w.heap.size + 1 + 1 + 1) (Value.slice (some ⟨gT, 0, none⟩) nT capT) (Lc.set j (TB.mk { x.t with a := a7, cap := c7 } x.b)) ∧ (Lc.set j (TB.mk { x.t with a := a7, cap := c7 } x.b)).map TB.td = lT.map TB.td ∧ ∀ y ∈ Lc.set j (TB.mk { x.t with a := a7, cap := c7 } x.b), Bs ((((w7.setCell ⟨gT, j * 4, none⟩ (.int .i64 x.t.k)).setCell ⟨gT, j * 4 + 1, none⟩ (.slice a7 x.t.len c7)).setCell ⟨gT, j * 4 + 2, none⟩ (.int .i64 x.t.n)).setCell ⟨gT, j * 4 + 3, none⟩ (.int .i64 x.t.s)) y.t.a y.t.len y.b ∧ (y.t.len = 0 ∨ ∀ p, y.t.a = some p → p.block < w.heap.size ∨ wL.heap.size ≤ p.block)) := by
                refine ⟨ownT_set HO7.out j (by rw [HLC.out]; exact hlj) (TB.mk { x.t with a := a7, cap := c7 } x.b), ?_, fun y hy => ?_⟩
                · rw [← HOC.out.2.1]
                  apply List.ext_getElem?
                  intro q
                  rw [List.getElem?_map, List.getElem?_map, List.getElem?_set]
                  by_cases e : j = q
                  · subst e
                    rw [if_pos rfl, if_pos (by rw [HLC.out]; exact hlj), HXJ.out]
                    rfl
                  · rw [if_neg e]
                · rcases List.mem_or_eq_of_mem_set hy with hy | rfl
                  · have h9 := HOC.out.2.2 y hy
                    exact ⟨(h9.1.below HB7.out).butB hbut (h9.2.imp id (fun h p hp => by have := h p hp; omega)), h9.2⟩
                  · exact ⟨HBS7.out.butA hbut (fun p hp => by have := HBL7.out p hp; omega), .inr (fun p hp => by have := HBL7.out p hp; omega)⟩
              have hc : ∀ o, ((((w7.setCell ⟨gT, j * 4, none⟩ (.int .i64 x.t.k)).setCell ⟨gT, j * 4 + 1, none⟩ (.slice a7 x.t.len c7)).setCell ⟨gT, j * 4 + 2, none⟩ (.int .i64 x.t.n)).setCell ⟨gT, j * 4 + 3, none⟩ (.int .i64 x.t.s)).cell? ⟨(w.heap.size + 1 + 1), o, none⟩ = wr.cell? ⟨(w.heap.size + 1 + 1), o, none⟩ := fun o => (hbut.cell (p := ⟨(w.heap.size + 1 + 1), o, none⟩) (by show (w.heap.size + 1 + 1) ≠ gT; omega)).trans (HB7.out.cell (p := ⟨(w.heap.size + 1 + 1), o, none⟩) (by show (w.heap.size + 1 + 1) < _; omega))
              have hf : ∀ o, ((((w7.setCell ⟨gT, j * 4, none⟩ (.int .i64 x.t.k)).setCell ⟨gT, j * 4 + 1, none⟩ (.slice a7 x.t.len c7)).setCell ⟨gT, j * 4 + 2, none⟩ (.int .i64 x.t.n)).setCell ⟨gT, j * 4 + 3, none⟩ (.int .i64 x.t.s)).frozen? ⟨(w.heap.size + 1 + 1), o, none⟩ = wr.frozen? ⟨(w.heap.size + 1 + 1), o, none⟩ := fun o => (hbut.frozen (p := ⟨(w.heap.size + 1 + 1), o, none⟩) (by show (w.heap.size + 1 + 1) ≠ gT; omega)).trans (HB7.out.frozen (p := ⟨(w.heap.size + 1 + 1), o, none⟩) (by show (w.heap.size + 1 + 1) < _; omega))
              have HN2 : Hid (((((w7.setCell ⟨gT, j * 4, none⟩ (.int .i64 x.t.k)).setCell ⟨gT, j * 4 + 1, none⟩ (.slice a7 x.t.len c7)).setCell ⟨gT, j * 4 + 2, none⟩ (.int .i64 x.t.n)).setCell ⟨gT, j * 4 + 3, none⟩ (.int .i64 x.t.s)).cell? ⟨(w.heap.size + 1 + 1), 0, none⟩ = some (Value.slice (some ⟨gT, 0, none⟩) nT capT) ∧ ((((w7.setCell ⟨gT, j * 4, none⟩ (.int .i64 x.t.k)).setCell ⟨gT, j * 4 + 1, none⟩ (.slice a7 x.t.len c7)).setCell ⟨gT, j * 4 + 2, none⟩ (.int .i64 x.t.n)).setCell ⟨gT, j * 4 + 3, none⟩ (.int .i64 x.t.s)).cell? ⟨(w.heap.size + 1 + 1), 1, none⟩ = some vR ∧ ((((w7.setCell ⟨gT, j * 4, none⟩ (.int .i64 x.t.k)).setCell ⟨gT, j * 4 + 1, none⟩ (.slice a7 x.t.len c7)).setCell ⟨gT, j * 4 + 2, none⟩ (.int .i64 x.t.n)).setCell ⟨gT, j * 4 + 3, none⟩ (.int .i64 x.t.s)).frozen? ⟨(w.heap.size + 1 + 1), 0, none⟩ = false ∧ ((((w7.setCell ⟨gT, j * 4, none⟩ (.int .i64 x.t.k)).setCell ⟨gT, j * 4 + 1, none⟩ (.slice a7 x.t.len c7)).setCell ⟨gT, j * 4 + 2, none⟩ (.int .i64 x.t.n)).setCell ⟨gT, j * 4 + 3, none⟩ (.int .i64 x.t.s)).frozen? ⟨(w.heap.size + 1 + 1), 1, none⟩ = false) := ⟨(hc 0).trans HSQ.out.1, (hc 1).trans HSQ.out.2.1, (hf 0).trans HSQ.out.2.2.1, (hf 1).trans HSQ.out.2.2.2⟩
              have HN3 : Hid (Orders ((((w7.setCell ⟨gT, j * 4, none⟩ (.int .i64 x.t.k)).setCell ⟨gT, j * 4 + 1, none⟩ (.slice a7 x.t.len c7)).setCell ⟨gT, j * 4 + 2, none⟩ (.int .i64 x.t.n)).setCell ⟨gT, j * 4 + 3, none⟩ (.int .i64 x.t.s)) wL.heap.size vR (gRows (lT.map TB.td) T U V bt bu bv n) 6 vs) := (HOQ.out.grown (grown_of_below (row := none) HB7.out) (fun g hg => by cases hg)).grown ((((grown_set _ _ _ _).trans (grown_set _ _ _ _)).trans (grown_set _ _ _ _)).trans (grown_set _ _ _ _)) (fun g hg => by cases hg; omega)
              have HN4 : Hid (Below (w.heap.size + 1 + 1) wL ((((w7.setCell ⟨gT, j * 4, none⟩ (.int .i64 x.t.k)).setCell ⟨gT, j * 4 + 1, none⟩ (.slice a7 x.t.len c7)).setCell ⟨gT, j * 4 + 2, none⟩ (.int .i64 x.t.n)).setCell ⟨gT, j * 4 + 3, none⟩ (.int .i64 x.t.s))) := (HBQ.out.trans (HB7.out.mono (by omega))).trans (hbut.below (by omega))
              clear hbut hc hf m0 m1 m2 m3 q0 q1 q2 q3 g0 g1 g2 g3 hHeld HOWN HBX0 y0 y1 y2 y3
              generalize ((((w7.setCell ⟨gT, j * 4, none⟩ (.int .i64 x.t.k)).setCell ⟨gT, j * 4 + 1, none⟩ (.slice a7 x.t.len c7)).setCell ⟨gT, j * 4 + 2, none⟩ (.int .i64 x.t.n)).setCell ⟨gT, j * 4 + 3, none⟩ (.int .i64 x.t.s)) = w9 at *
              go_wp2
              go_roundw
              case rel => first | exact ⟨j + 1, by omega, by go_num, _, HN1⟩ | exact ⟨j + 1, _, by omega, by go_num, HN1, HN2, HN3, HN4⟩
              case measure => simp [intOf]; omega
            · obtain rfl : nT = j := by omega
              have hljz : ¬ (nT : Int) < (nT : Int) := by omega
              obtain ⟨aR, cR, rbs, hvR, hsr, hrl, hrb⟩ := HOQ.out.read (by omega)
              subst hvR
              obtain ⟨e0, e1, e2, e3, _⟩ := HSB6.out wr HBQ.out
              have hs9 : w.heap.size + 1 < wr.heap.size := by omega
              clear hsr hrl hrb
              go_wp2
              refine bodyPost_ret (v := .agg #[(Value.slice (some ⟨gT, 0, none⟩) nT capT), .slice aR 6 cR]) (by simp [results, Tryz.results35, go_sem, *]) rfl ?_
              have hbut : But (w.heap.size + 1) wr ((wr.setCell ⟨w.heap.size + 1, 0, none⟩ (Value.slice (some ⟨gT, 0, none⟩) nT capT)).setCell ⟨w.heap.size + 1, 1, none⟩ (.slice aR 6 cR)) := ((But.refl _ _).set _ _).set _ _
              have hOT9 : OwnTR ((wr.setCell ⟨w.heap.size + 1, 0, none⟩ (Value.slice (some ⟨gT, 0, none⟩) nT capT)).setCell ⟨w.heap.size + 1, 1, none⟩ (.slice aR 6 cR)) (w.heap.size + 1 + 1 + 1) (Value.slice (some ⟨gT, 0, none⟩) nT capT) Lc := HOC.out.1.but hbut (by omega)
              have hor9 := HOQ.out.grown ((grown_set wr (w.heap.size + 1) 0 (Value.slice (some ⟨gT, 0, none⟩) nT capT)).trans (grown_set (wr.setCell ⟨w.heap.size + 1, 0, none⟩ (Value.slice (some ⟨gT, 0, none⟩) nT capT)) (w.heap.size + 1) 1 (.slice aR 6 cR))) (fun g hg => by cases hg; omega)
              obtain ⟨aR9, cR9, rbs9, hv9, hsr, hrl, hrb⟩ := hor9.read (by omega)
              simp only [Value.slice.injEq] at hv9
              obtain ⟨e9, _, f9⟩ := hv9
              rw [← e9] at hsr
              refine ⟨some ⟨gT, 0, none⟩, capT, aR, cR, Lc, rbs9, by rw [HLC.out], ?_, fun y hy => ?_, ?_, ?_, hrl, hsr, fun i x hx => ⟨(hrb i x hx).1, ?_⟩, ?_⟩
              · obtain ⟨a9, c9, hv, hr9, _⟩ := hOT9.form
                simp only [Value.slice.injEq] at hv
                rw [← hv.1] at hr9
                exact hr9
              · have h9 := HOC.out.2.2 y hy
                exact h9.1.butB hbut (h9.2.imp id (fun h p hp => by have := h p hp; omega))
              · rw [HOC.out.2.1]
                exact HTM.out
              · have h1 := HL3.out
                have h2 := HLC.out
                have h3 := HNT.out
                omega
              · rw [HOC.out.2.1]
                exact (hrb i x hx).2
              · exact (HSB6.out wr HBQ.out).2.2.2.2.trans (hbut.below (by omega))
end Go.Proofs.YtdcaicoomldmgaaGreatDoor
