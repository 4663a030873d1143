/- Texts put together: GdrK -/
import Derived.Test.YtoclingolfdfeaaGreatDoorMk20
/- GdrK -/
namespace Go.Proofs.YtoclingolfdfeaaGreatDoor
open Go.RowKit Go.Deep
set_option maxRecDepth 100000

theorem BST.row0 {g : Nat} {a : Option Addr} {len cap : Nat} {w w' : World} {p q n cv : Nat} {x : G1} {r : List G1} (h : BST g a len cap w w' p (.slice (some ⟨q, 0, none⟩) n cv) (x :: r)) : ∀ c y, (e12 x.t x.u x.v)[c]? = some y → w'.cell? ⟨q, c, none⟩ = some y := by
  rcases h.own.form with ⟨e, _⟩ | ⟨q', c', e, _, _, _, h3⟩
  · cases e
  · cases e
    intro c y hy
    refine h3 c y ?_
    rw [flatG_cons, List.getElem?_append_left (List.getElem?_eq_some_iff.1 hy).1]
    exact hy
theorem alloc_at (w : World) (o : Obj) : (w.alloc o).heap[w.heap.size]? = some o := by
  show (w.heap.push o)[w.heap.size]? = some o
  rw [Array.getElem?_push]
  simp
theorem news1 (w : World) (x : G1) : ∀ j u, (flatG [x])[j]? = some u → (w.alloc (.cells #[.int .i64 x.t.k, .slice x.t.a x.t.len x.t.cap, .int .i64 x.t.n, .int .i64 x.t.s, .int .i64 x.u.k, .slice x.u.a x.u.len x.u.cap, .int .i64 x.u.n, .int .i64 x.u.s, .int .i64 x.v.k, .slice x.v.a x.v.len x.v.cap, .int .i64 x.v.n, .int .i64 x.v.s] 36)).cell? ((⟨w.heap.size, 0, none⟩ : Addr).add j) = some u := by
  intro j u hu
  refine World.news_of_block (alloc_at w _) j u ?_
  rw [flatG_cons, show flatG [] = [] from rfl, List.append_nil] at hu
  exact hu
def mu61 (w : World) (p : Nat) : Nat := match w.cell? ⟨p, 0, none⟩ with
  | some (.slice _ n _) => 61 - n
  | _ => 0
theorem mu61_of {w : World} {p n c : Nat} {b : Option Addr} (h : w.cell? ⟨p, 0, none⟩ = some (.slice b n c)) : mu61 w p = 61 - n := by
  unfold mu61
  rw [h]
theorem BST.set {g : Nat} {a : Option Addr} {len cap : Nat} {w w5 w6 : World} {p q n cv : Nat} {x y : G1} {r : List G1} (h : BST g a len cap w w5 p (.slice (some ⟨q, 0, none⟩) n cv) (x :: r)) (hQ : Past q w5 w6) (hO : OwnG w6 (w.heap.size + 1) (.slice (some ⟨q, 0, none⟩) n cv) (y :: r)) (hy : GY w5 (w.heap.size + 1) y) : BST g a len cap w w6 p (.slice (some ⟨q, 0, none⟩) n cv) (y :: r) := by
  have hgl := h.c0.lt
  have hpr := h.pr
  have hlt := h.lt
  have hqB := h.own.2 q rfl
  have hqp : p ≠ q := fun e => h.own.ne_box h.box (by rw [e]; rfl)
  have hq0 : w5.cell? ⟨q, 0, none⟩ = some (.int .i64 x.t.k) := h.row0 0 _ rfl
  have hs := hQ.size
  have hPg : Past g w w6 := past_other h.past hQ (by omega)
  refine ⟨hO, fun z hz => ?_, (hQ.cell (p := ⟨p, 0, none⟩) hlt hqp).trans h.box, (hQ.frozen (p := ⟨p, 0, none⟩) hlt hqp).trans h.fz, by omega, hpr, (hQ.cell (p := ⟨w.heap.size, 0, none⟩) (by show w.heap.size < _; omega) (by show w.heap.size ≠ q; omega)).trans h.r1, (hQ.frozen (p := ⟨w.heap.size, 0, none⟩) (by show w.heap.size < _; omega) (by show w.heap.size ≠ q; omega)).trans h.r2, hPg, h.c0.glue h.cur hPg (hQ.block g (by omega) (by omega)), h.c0⟩
  rcases List.mem_cons.1 hz with rfl | hz
  · exact hy.pastNe hQ hq0 (fun _ e => by cases e)
  · exact (h.gy z (List.mem_cons_of_mem _ hz)).pastNe hQ hq0 (fun _ e => by cases e)
set_option maxHeartbeats 16000000 in
theorem l2bent_any (g : Nat) (a : Option Addr) (len cap : Nat) (w : World) (hlen : len ≤ 9223372036854775807) (hC : Cur w g a len cap) :
    Calls Tryz.prog 45 #[.pointer (some ⟨g, 0, none⟩)] w (BentG g a len cap w) := by
  have BL := fun w (n : Nat) (h : Cur w g a len cap) (h1 : 1 ≤ n) (h2 : n ≤ 256) => l1Below_any g a len cap n w hlen h h1 h2
  have ON := fun w (n : Nat) (h : Cur w g a len cap) (h1 : 1 ≤ n) (h2 : n ≤ 256) => l1Once_any g a len cap n w hlen h h1 h2
  have GR := fun w h => l2graph_any g a len cap w hlen h
  have hgl := hC.lt
  have HC : Hid (Cur w g a len cap) := hC
  clear hC
  go_enter Tryz.func45, Tryz.ntmps45
  go_wp2_with fail
  refine (GR _ (HC.out.below (bl_a _))).mono ?_
  rintro e w1 ⟨v, l, rfl, hO1, hl1, hG1, hP1, hC1⟩
  obtain ⟨av, n, cv, rfl⟩ := hO1.slice
  have hnl := hO1.len
  have HS1 : Hid (BST g a len cap w (w1.alloc (.cells #[.slice av n cv] 30)) w1.heap.size (.slice av n cv) l) := by
    have e0 : (w.alloc (.cells #[.slice none 0 0] 30)).heap.size = w.heap.size + 1 := by simp
    rw [e0] at hO1 hG1
    have hz : w.heap.size + 1 ≤ w1.heap.size := by have := hP1.size; rwa [e0] at this
    exact ⟨hO1.below (bl_a _), fun y hy => (hG1 y hy).y.below (bl_a _), by simp [go_sem], by simp [go_sem], by simp, hz,
      ((bl_a _).cell (p := ⟨w.heap.size, 0, none⟩) hz).trans ((hP1.cell (p := ⟨w.heap.size, 0, none⟩) (by show w.heap.size < _; omega) (by show w.heap.size ≠ g; omega)).trans (by simp [go_sem])),
      ((Past.of_below (bl_a _) : Past g w1 _).frozen (p := ⟨w.heap.size, 0, none⟩) hz (by show w.heap.size ≠ g; omega)).trans ((hP1.frozen (p := ⟨w.heap.size, 0, none⟩) (by show w.heap.size < _; omega) (by show w.heap.size ≠ g; omega)).trans (by simp [go_sem])),
      ((Past.of_below (bl_a _)).trans hP1).trans (Past.of_below (bl_a _)), hC1.below (bl_a _), HC.out⟩
  have HNL : Hid (n = l.length) := hnl
  have hn20 : n ≤ 20 := by omega
  clear hO1 hG1 hP1 hC1 hl1 hnl
  obtain ⟨p, hp⟩ : ∃ p, p = w1.heap.size := ⟨_, rfl⟩
  rw [← hp] at HS1
  go_wp2_with fail
  refine (ON _ 6 HS1.out.cur (by omega) (by omega)).mono ?_
  rintro e w2 ⟨q, rfl, hP2, hC2⟩
  have HS2 : Hid (BST g a len cap w w2 p (.slice av n cv) l) := HS1.out.step hP2 hC2
  clear HS1 hP2 hC2
  simp only [← hp]
  clear hp
  cases q with
  | false =>
    have x0 := HS2.out.box
    have x1 := HS2.out.r1
    have x2 := HS2.out.r2
    go_wp2_with fail
    have y0 := set_same x1 (v := .slice av n cv)
    refine bodyPost_ret (v := .agg #[.slice av n cv]) (by simp [results, Tryz.results45, go_sem, y0]) rfl ?_
    exact HS2.out.fin (by have h := HNL.out; omega)
  | true =>
    have x0 := HS2.out.box
    by_cases h0 : n = 0
    · subst h0
      have x0 := HS2.out.box
      have x1 := HS2.out.r1
      have x2 := HS2.out.r2
      go_wp2_with fail
      have y0 := set_same x1 (v := .slice av 0 cv)
      refine bodyPost_ret (v := .agg #[.slice av 0 cv]) (by simp [results, Tryz.results45, go_sem, y0]) rfl ?_
      exact HS2.out.fin (by have h := HNL.out; omega)
    · have hpos : (0 : Int) < (n : Int) := by omega
      obtain ⟨x, r, rfl⟩ : ∃ x r, l = x :: r := by
        have h := HNL.out
        cases l with
        | nil => simp at h; omega
        | cons x r => exact ⟨x, r, rfl⟩
      have HNX : Hid (n = (x :: r).length) := HNL
      obtain ⟨q, rfl⟩ : ∃ q, av = some ⟨q, 0, none⟩ := by
        rcases HS2.out.own.form with ⟨_, e⟩ | ⟨q, c, e, _⟩
        · cases e
        · simp only [Value.slice.injEq] at e
          exact ⟨q, e.1⟩
      go_wp2_with fail
      refine (BL _ 4 HS2.out.cur (by omega) (by omega)).mono ?_
      rintro e w3 ⟨k, rfl, hk, hP3, hC3⟩
      have HS : Hid (BST g a len cap w w3 p (.slice (some ⟨q, 0, none⟩) n cv) (x :: r)) := HS2.out.step hP3 hC3
      clear HS2 hP3 hC3 x0 HNL
      rcases (by omega : k = 0 ∨ k = 1 ∨ k = 2 ∨ k = 3) with rfl | rfl | rfl | rfl
      · skip
        have d0 : w3.drew.cell? ⟨p, 0, none⟩ = some (.slice (some ⟨q, 0, none⟩) n cv) := HS.out.box
        have d1 : ∀ o, (w3.drew.alloc o).cell? ⟨p, 0, none⟩ = some (.slice (some ⟨q, 0, none⟩) n cv) := fun o => ((bl_a o).cell (p := ⟨p, 0, none⟩) HS.out.lt).trans d0
        have d2 : ∀ o, (w3.alloc o).drew.cell? ⟨p, 0, none⟩ = some (.slice (some ⟨q, 0, none⟩) n cv) := d1
        have d3 : ∀ o, (w3.alloc o).cell? ⟨p, 0, none⟩ = some (.slice (some ⟨q, 0, none⟩) n cv) := d1
        have hrow : ∀ c y, (e12 x.t x.u x.v)[c]? = some y → w3.drew.cell? ⟨q, c, none⟩ = some y := HS.out.row0
        have a0 := hrow 0 _ rfl
        have a1 := hrow 1 _ rfl
        have a2 := hrow 2 _ rfl
        have a3 := hrow 3 _ rfl
        have a4 := hrow 4 _ rfl
        have a5 := hrow 5 _ rfl
        have a6 := hrow 6 _ rfl
        have a7 := hrow 7 _ rfl
        have a8 := hrow 8 _ rfl
        have a9 := hrow 9 _ rfl
        have a10 := hrow 10 _ rfl
        have a11 := hrow 11 _ rfl
        have HOa : Hid (OwnG (w3.drew.alloc (.cells #[.int .i64 x.t.k, .slice x.t.a x.t.len x.t.cap, .int .i64 x.t.n, .int .i64 x.t.s, .int .i64 x.u.k, .slice x.u.a x.u.len x.u.cap, .int .i64 x.u.n, .int .i64 x.u.s, .int .i64 x.v.k, .slice x.v.a x.v.len x.v.cap, .int .i64 x.v.n, .int .i64 x.v.s] 36)) (w.heap.size + 1) (.slice (some ⟨q, 0, none⟩) n cv) (x :: r)) := HS.out.own.below (bl_trans (Below.drew (Below.refl _ _)) (bl_a _))
        have HNa : Hid (∀ j u, (flatG [x])[j]? = some u → (w3.drew.alloc (.cells #[.int .i64 x.t.k, .slice x.t.a x.t.len x.t.cap, .int .i64 x.t.n, .int .i64 x.t.s, .int .i64 x.u.k, .slice x.u.a x.u.len x.u.cap, .int .i64 x.u.n, .int .i64 x.u.s, .int .i64 x.v.k, .slice x.v.a x.v.len x.v.cap, .int .i64 x.v.n, .int .i64 x.v.s] 36)).cell? ((⟨w3.drew.heap.size, 0, none⟩ : Addr).add j) = some u) := news1 _ x
        have hNa : (x :: r).length + 1 = n + 1 := by rw [← HNX.out]
        have hBa : w.heap.size + 1 ≤ (w3.drew.alloc (.cells #[.int .i64 x.t.k, .slice x.t.a x.t.len x.t.cap, .int .i64 x.t.n, .int .i64 x.t.s, .int .i64 x.u.k, .slice x.u.a x.u.len x.u.cap, .int .i64 x.u.n, .int .i64 x.u.s, .int .i64 x.v.k, .slice x.v.a x.v.len x.v.cap, .int .i64 x.v.n, .int .i64 x.v.s] 36)).heap.size := by have h1 := HS.out.pr; have h2 := HS.out.lt; simp; omega
        have HAP : Hid (∀ w9 q9 c9, OwnG w9 (w.heap.size + 1) (.slice (some ⟨q9, 0, none⟩) (n + 1) c9) ((x :: r) ++ [x]) → (w3.drew.alloc (.cells #[.int .i64 x.t.k, .slice x.t.a x.t.len x.t.cap, .int .i64 x.t.n, .int .i64 x.t.s, .int .i64 x.u.k, .slice x.u.a x.u.len x.u.cap, .int .i64 x.u.n, .int .i64 x.u.s, .int .i64 x.v.k, .slice x.v.a x.v.len x.v.cap, .int .i64 x.v.n, .int .i64 x.v.s] 36)).grownBy w9 (some q) → (w9.cell? ⟨p, 0, none⟩ = some (.slice (some ⟨q, 0, none⟩) n cv) ∧ w9.frozen? ⟨p, 0, none⟩ = false) ∧ BST g a len cap w (w9.setCell ⟨p, 0, none⟩ (.slice (some ⟨q9, 0, none⟩) (n + 1) c9)) p (.slice (some ⟨q9, 0, none⟩) (n + 1) c9) ((x :: r) ++ [x])) := fun w9 q9 c9 h1 h2 => HS.out.app h2 h1 (fun y hy => by rcases List.mem_append.1 hy with h | h; exact h; rw [List.mem_singleton.1 h]; exact List.mem_cons_self) (by simp)
        clear hrow
        go_wp2_with fail
        refine wp_region_held_drew (S := fun w' => Kept p (some q) w3 w') (by kernel_rfl) ?_ (fun hHeld => ?_)
        · exact Kept.drew0 _ _ _
        refine take_at (i := 0) 31 (v := ?v1) rfl rfl (by kernel_rfl) (by kernel_rfl) (by kernel_rfl) (fun _ _ _ h => h) (Or.inl ⟨by rfl, ?y1⟩) hHeld ?r1
        case y1 => (intro w' hSw; skip; go_simp; (try with_reducible rfl))
        try simp only [Act.put, List.setIfInBounds_toArray, List.set_cons_zero, List.set_cons_succ]
        refine take_at (i := 2) 33 (v := ?v2) rfl rfl (by kernel_rfl) (by kernel_rfl) (by kernel_rfl) (fun _ _ _ h => h) (Or.inl ⟨by rfl, ?y2⟩) hHeld ?r2
        case y2 => (intro w' hSw; skip; go_simp; (try with_reducible rfl))
        try simp only [Act.put, List.setIfInBounds_toArray, List.set_cons_zero, List.set_cons_succ]
        refine wpAnyH_ready (rs := [1, 3]) (by kernel_rfl) (by simp) ?_
        refine AllReadyH.cons rfl (fun K hK => ?_) (AllReadyH.cons rfl (fun K hK => ?_) AllReadyH.nil)
        · go_simp
          refine hK.out _ _ ?_ (fun hHeld => ?_)
          · exact Kept.drew0 _ _ _
          clear hK K
          try simp only [Act.put, List.setIfInBounds_toArray, List.set_cons_zero, List.set_cons_succ]
          refine wpAnyH_ready (rs := [3]) (by kernel_rfl) (by simp) ?_
          refine AllReadyH.cons rfl (fun K hK => ?_) AllReadyH.nil
          go_simp
          refine hK.out _ _ ?_ (fun hHeld => ?_)
          · exact Kept.drew0 _ _ _
          clear hK K
          try simp only [Act.put, List.setIfInBounds_toArray, List.set_cons_zero, List.set_cons_succ]
          refine take_at (i := 4) 35 (v := ?v3) rfl rfl (by kernel_rfl) (by kernel_rfl) (by kernel_rfl) (fun _ _ _ h => h) (Or.inl ⟨by rfl, ?y3⟩) hHeld ?r3
          case y3 => (intro w' hSw; skip; go_simp; (try with_reducible rfl))
          try simp only [Act.put, List.setIfInBounds_toArray, List.set_cons_zero, List.set_cons_succ]
          refine wpAnyH_ready (rs := [5]) (by kernel_rfl) (by simp) ?_
          refine AllReadyH.cons rfl (fun K hK => ?_) AllReadyH.nil
          go_simp
          refine hK.out _ _ ?_ (fun hHeld => ?_)
          · exact Kept.drew0 _ _ _
          clear hK K
          try simp only [Act.put, List.setIfInBounds_toArray, List.set_cons_zero, List.set_cons_succ]
          refine wpAnyH_ready (rs := [6]) (by kernel_rfl) (by simp) ?_
          refine AllReadyH.cons rfl (fun K hK => ?_) AllReadyH.nil
          go_simp
          refine hK.out _ _ ?_ (fun hHeld => ?_)
          · exact (Kept.drew0 _ _ _).alloc _
          clear hK K
          try simp only [Act.put, List.setIfInBounds_toArray, List.set_cons_zero, List.set_cons_succ]
          refine wpAnyH_ready (rs := [7]) (by kernel_rfl) (by simp) ?_
          refine AllReadyH.cons rfl (fun K hK => ?_) AllReadyH.nil
          refine stepG rfl (.tmp 32) (.tmp 37) rfl (w.heap.size + 1) (.slice (some ⟨q, 0, none⟩) n cv) (x :: r) rfl HOa ⟨w3.drew.heap.size, 0, none⟩ 1 1 [x] rfl rfl HNa (by omega) (n + 1) hNa ((x :: r) ++ [x]) rfl (by omega) hBa ?_
          intro q9 c9 w9 HO9 HG9
          have HZ := HAP.out w9 q9 c9 HO9.out HG9.out
          have z0 := HZ.1.1
          have z1 := HZ.1.2
          refine hK.out _ _ ?_ (fun hHeld => ?_)
          · exact ((Kept.drew0 _ _ _).alloc _).grown HG9.out
          clear hK K
          try simp only [Act.put, List.setIfInBounds_toArray]
          refine take_at (i := 8) 39 (v := ?v4) rfl rfl (by kernel_rfl) (by kernel_rfl) (by kernel_rfl) (fun _ _ _ h => h) (Or.inl ⟨by rfl, ?y4⟩) hHeld ?r4
          case y4 => (intro w' hSw; skip; go_simp; (try with_reducible rfl))
          try simp only [Act.put]
          refine wpAnyH_ready (rs := [9]) (by kernel_rfl) (by simp) ?_
          refine AllReadyH.cons rfl (fun K hK => ?_) AllReadyH.nil
          go_simp
          refine hK.out _ _ ?_ (fun hHeld => ?_)
          · exact (((Kept.drew0 _ _ _).alloc _).grown HG9.out).set 0 _
          clear hK K
          try simp only [Act.put, List.setIfInBounds_toArray, List.set_cons_zero, List.set_cons_succ]
          refine wpAnyH_done (by kernel_rfl) ?_ _
          have HS9 : Hid (BST g a len cap w (w9.setCell ⟨p, 0, none⟩ (.slice (some ⟨q9, 0, none⟩) (n + 1) c9)) p (.slice (some ⟨q9, 0, none⟩) (n + 1) c9) ((x :: r) ++ [x])) := HZ.2
          clear HZ
          generalize w9.setCell ⟨p, 0, none⟩ (.slice (some ⟨q9, 0, none⟩) (n + 1) c9) = w10 at *
          have x0 := HS9.out.box
          have x1 := HS9.out.r1
          have x2 := HS9.out.r2
          go_wp2_with fail
          have y0 := set_same x1 (v := .slice (some ⟨q9, 0, none⟩) (n + 1) c9)
          refine bodyPost_ret (v := .agg #[.slice (some ⟨q9, 0, none⟩) (n + 1) c9]) (by simp [results, Tryz.results45, go_sem, y0]) rfl ?_
          exact HS9.out.fin (by have h := HNX.out; simp at h ⊢; omega)
        · go_simp
          refine hK.out _ _ ?_ (fun hHeld => ?_)
          · exact Kept.drew0 _ _ _
          clear hK K
          try simp only [Act.put, List.setIfInBounds_toArray, List.set_cons_zero, List.set_cons_succ]
          refine take_at (i := 4) 35 (v := ?v5) rfl rfl (by kernel_rfl) (by kernel_rfl) (by kernel_rfl) (fun _ _ _ h => h) (Or.inl ⟨by rfl, ?y5⟩) hHeld ?r5
          case y5 => (intro w' hSw; skip; go_simp; (try with_reducible rfl))
          try simp only [Act.put, List.setIfInBounds_toArray, List.set_cons_zero, List.set_cons_succ]
          refine wpAnyH_ready (rs := [1, 5]) (by kernel_rfl) (by simp) ?_
          refine AllReadyH.cons rfl (fun K hK => ?_) (AllReadyH.cons rfl (fun K hK => ?_) AllReadyH.nil)
          · go_simp
            refine hK.out _ _ ?_ (fun hHeld => ?_)
            · exact Kept.drew0 _ _ _
            clear hK K
            try simp only [Act.put, List.setIfInBounds_toArray, List.set_cons_zero, List.set_cons_succ]
            refine wpAnyH_ready (rs := [5]) (by kernel_rfl) (by simp) ?_
            refine AllReadyH.cons rfl (fun K hK => ?_) AllReadyH.nil
            go_simp
            refine hK.out _ _ ?_ (fun hHeld => ?_)
            · exact Kept.drew0 _ _ _
            clear hK K
            try simp only [Act.put, List.setIfInBounds_toArray, List.set_cons_zero, List.set_cons_succ]
            refine wpAnyH_ready (rs := [6]) (by kernel_rfl) (by simp) ?_
            refine AllReadyH.cons rfl (fun K hK => ?_) AllReadyH.nil
            go_simp
            refine hK.out _ _ ?_ (fun hHeld => ?_)
            · exact (Kept.drew0 _ _ _).alloc _
            clear hK K
            try simp only [Act.put, List.setIfInBounds_toArray, List.set_cons_zero, List.set_cons_succ]
            refine wpAnyH_ready (rs := [7]) (by kernel_rfl) (by simp) ?_
            refine AllReadyH.cons rfl (fun K hK => ?_) AllReadyH.nil
            refine stepG rfl (.tmp 32) (.tmp 37) rfl (w.heap.size + 1) (.slice (some ⟨q, 0, none⟩) n cv) (x :: r) rfl HOa ⟨w3.drew.heap.size, 0, none⟩ 1 1 [x] rfl rfl HNa (by omega) (n + 1) hNa ((x :: r) ++ [x]) rfl (by omega) hBa ?_
            intro q9 c9 w9 HO9 HG9
            have HZ := HAP.out w9 q9 c9 HO9.out HG9.out
            have z0 := HZ.1.1
            have z1 := HZ.1.2
            refine hK.out _ _ ?_ (fun hHeld => ?_)
            · exact ((Kept.drew0 _ _ _).alloc _).grown HG9.out
            clear hK K
            try simp only [Act.put, List.setIfInBounds_toArray]
            refine take_at (i := 8) 39 (v := ?v6) rfl rfl (by kernel_rfl) (by kernel_rfl) (by kernel_rfl) (fun _ _ _ h => h) (Or.inl ⟨by rfl, ?y6⟩) hHeld ?r6
            case y6 => (intro w' hSw; skip; go_simp; (try with_reducible rfl))
            try simp only [Act.put]
            refine wpAnyH_ready (rs := [9]) (by kernel_rfl) (by simp) ?_
            refine AllReadyH.cons rfl (fun K hK => ?_) AllReadyH.nil
            go_simp
            refine hK.out _ _ ?_ (fun hHeld => ?_)
            · exact (((Kept.drew0 _ _ _).alloc _).grown HG9.out).set 0 _
            clear hK K
            try simp only [Act.put, List.setIfInBounds_toArray, List.set_cons_zero, List.set_cons_succ]
            refine wpAnyH_done (by kernel_rfl) ?_ _
            have HS9 : Hid (BST g a len cap w (w9.setCell ⟨p, 0, none⟩ (.slice (some ⟨q9, 0, none⟩) (n + 1) c9)) p (.slice (some ⟨q9, 0, none⟩) (n + 1) c9) ((x :: r) ++ [x])) := HZ.2
            clear HZ
            generalize w9.setCell ⟨p, 0, none⟩ (.slice (some ⟨q9, 0, none⟩) (n + 1) c9) = w10 at *
            have x0 := HS9.out.box
            have x1 := HS9.out.r1
            have x2 := HS9.out.r2
            go_wp2_with fail
            have y0 := set_same x1 (v := .slice (some ⟨q9, 0, none⟩) (n + 1) c9)
            refine bodyPost_ret (v := .agg #[.slice (some ⟨q9, 0, none⟩) (n + 1) c9]) (by simp [results, Tryz.results45, go_sem, y0]) rfl ?_
            exact HS9.out.fin (by have h := HNX.out; simp at h ⊢; omega)
          · go_simp
            refine hK.out _ _ ?_ (fun hHeld => ?_)
            · exact Kept.drew0 _ _ _
            clear hK K
            try simp only [Act.put, List.setIfInBounds_toArray, List.set_cons_zero, List.set_cons_succ]
            refine wpAnyH_ready (rs := [1, 6]) (by kernel_rfl) (by simp) ?_
            refine AllReadyH.cons rfl (fun K hK => ?_) (AllReadyH.cons rfl (fun K hK => ?_) AllReadyH.nil)
            · go_simp
              refine hK.out _ _ ?_ (fun hHeld => ?_)
              · exact Kept.drew0 _ _ _
              clear hK K
              try simp only [Act.put, List.setIfInBounds_toArray, List.set_cons_zero, List.set_cons_succ]
              refine wpAnyH_ready (rs := [6]) (by kernel_rfl) (by simp) ?_
              refine AllReadyH.cons rfl (fun K hK => ?_) AllReadyH.nil
              go_simp
              refine hK.out _ _ ?_ (fun hHeld => ?_)
              · exact (Kept.drew0 _ _ _).alloc _
              clear hK K
              try simp only [Act.put, List.setIfInBounds_toArray, List.set_cons_zero, List.set_cons_succ]
              refine wpAnyH_ready (rs := [7]) (by kernel_rfl) (by simp) ?_
              refine AllReadyH.cons rfl (fun K hK => ?_) AllReadyH.nil
              refine stepG rfl (.tmp 32) (.tmp 37) rfl (w.heap.size + 1) (.slice (some ⟨q, 0, none⟩) n cv) (x :: r) rfl HOa ⟨w3.drew.heap.size, 0, none⟩ 1 1 [x] rfl rfl HNa (by omega) (n + 1) hNa ((x :: r) ++ [x]) rfl (by omega) hBa ?_
              intro q9 c9 w9 HO9 HG9
              have HZ := HAP.out w9 q9 c9 HO9.out HG9.out
              have z0 := HZ.1.1
              have z1 := HZ.1.2
              refine hK.out _ _ ?_ (fun hHeld => ?_)
              · exact ((Kept.drew0 _ _ _).alloc _).grown HG9.out
              clear hK K
              try simp only [Act.put, List.setIfInBounds_toArray]
              refine take_at (i := 8) 39 (v := ?v7) rfl rfl (by kernel_rfl) (by kernel_rfl) (by kernel_rfl) (fun _ _ _ h => h) (Or.inl ⟨by rfl, ?y7⟩) hHeld ?r7
              case y7 => (intro w' hSw; skip; go_simp; (try with_reducible rfl))
              try simp only [Act.put]
              refine wpAnyH_ready (rs := [9]) (by kernel_rfl) (by simp) ?_
              refine AllReadyH.cons rfl (fun K hK => ?_) AllReadyH.nil
              go_simp
              refine hK.out _ _ ?_ (fun hHeld => ?_)
              · exact (((Kept.drew0 _ _ _).alloc _).grown HG9.out).set 0 _
              clear hK K
              try simp only [Act.put, List.setIfInBounds_toArray, List.set_cons_zero, List.set_cons_succ]
              refine wpAnyH_done (by kernel_rfl) ?_ _
              have HS9 : Hid (BST g a len cap w (w9.setCell ⟨p, 0, none⟩ (.slice (some ⟨q9, 0, none⟩) (n + 1) c9)) p (.slice (some ⟨q9, 0, none⟩) (n + 1) c9) ((x :: r) ++ [x])) := HZ.2
              clear HZ
              generalize w9.setCell ⟨p, 0, none⟩ (.slice (some ⟨q9, 0, none⟩) (n + 1) c9) = w10 at *
              have x0 := HS9.out.box
              have x1 := HS9.out.r1
              have x2 := HS9.out.r2
              go_wp2_with fail
              have y0 := set_same x1 (v := .slice (some ⟨q9, 0, none⟩) (n + 1) c9)
              refine bodyPost_ret (v := .agg #[.slice (some ⟨q9, 0, none⟩) (n + 1) c9]) (by simp [results, Tryz.results45, go_sem, y0]) rfl ?_
              exact HS9.out.fin (by have h := HNX.out; simp at h ⊢; omega)
            · go_simp
              refine hK.out _ _ ?_ (fun hHeld => ?_)
              · exact (Kept.drew0 _ _ _).alloc _
              clear hK K
              try simp only [Act.put, List.setIfInBounds_toArray, List.set_cons_zero, List.set_cons_succ]
              refine wpAnyH_ready (rs := [1]) (by kernel_rfl) (by simp) ?_
              refine AllReadyH.cons rfl (fun K hK => ?_) AllReadyH.nil
              go_simp
              refine hK.out _ _ ?_ (fun hHeld => ?_)
              · exact (Kept.drew0 _ _ _).alloc _
              clear hK K
              try simp only [Act.put, List.setIfInBounds_toArray, List.set_cons_zero, List.set_cons_succ]
              refine wpAnyH_ready (rs := [7]) (by kernel_rfl) (by simp) ?_
              refine AllReadyH.cons rfl (fun K hK => ?_) AllReadyH.nil
              refine stepG rfl (.tmp 32) (.tmp 37) rfl (w.heap.size + 1) (.slice (some ⟨q, 0, none⟩) n cv) (x :: r) rfl HOa ⟨w3.drew.heap.size, 0, none⟩ 1 1 [x] rfl rfl HNa (by omega) (n + 1) hNa ((x :: r) ++ [x]) rfl (by omega) hBa ?_
              intro q9 c9 w9 HO9 HG9
              have HZ := HAP.out w9 q9 c9 HO9.out HG9.out
              have z0 := HZ.1.1
              have z1 := HZ.1.2
              refine hK.out _ _ ?_ (fun hHeld => ?_)
              · exact ((Kept.drew0 _ _ _).alloc _).grown HG9.out
              clear hK K
              try simp only [Act.put, List.setIfInBounds_toArray]
              refine take_at (i := 8) 39 (v := ?v8) rfl rfl (by kernel_rfl) (by kernel_rfl) (by kernel_rfl) (fun _ _ _ h => h) (Or.inl ⟨by rfl, ?y8⟩) hHeld ?r8
              case y8 => (intro w' hSw; skip; go_simp; (try with_reducible rfl))
              try simp only [Act.put]
              refine wpAnyH_ready (rs := [9]) (by kernel_rfl) (by simp) ?_
              refine AllReadyH.cons rfl (fun K hK => ?_) AllReadyH.nil
              go_simp
              refine hK.out _ _ ?_ (fun hHeld => ?_)
              · exact (((Kept.drew0 _ _ _).alloc _).grown HG9.out).set 0 _
              clear hK K
              try simp only [Act.put, List.setIfInBounds_toArray, List.set_cons_zero, List.set_cons_succ]
              refine wpAnyH_done (by kernel_rfl) ?_ _
              have HS9 : Hid (BST g a len cap w (w9.setCell ⟨p, 0, none⟩ (.slice (some ⟨q9, 0, none⟩) (n + 1) c9)) p (.slice (some ⟨q9, 0, none⟩) (n + 1) c9) ((x :: r) ++ [x])) := HZ.2
              clear HZ
              generalize w9.setCell ⟨p, 0, none⟩ (.slice (some ⟨q9, 0, none⟩) (n + 1) c9) = w10 at *
              have x0 := HS9.out.box
              have x1 := HS9.out.r1
              have x2 := HS9.out.r2
              go_wp2_with fail
              have y0 := set_same x1 (v := .slice (some ⟨q9, 0, none⟩) (n + 1) c9)
              refine bodyPost_ret (v := .agg #[.slice (some ⟨q9, 0, none⟩) (n + 1) c9]) (by simp [results, Tryz.results45, go_sem, y0]) rfl ?_
              exact HS9.out.fin (by have h := HNX.out; simp at h ⊢; omega)
      · skip
        have d0 : w3.drew.cell? ⟨p, 0, none⟩ = some (.slice (some ⟨q, 0, none⟩) n cv) := HS.out.box
        have hpq : p ≠ q := fun e => HS.out.own.ne_box HS.out.box (by rw [e]; rfl)
        have HSX : Hid (∀ w', Kept q (some g) w3 w' → w'.cell? ⟨p, 0, none⟩ = some (.slice (some ⟨q, 0, none⟩) n cv)) := fun w' hk => (hk.cell HS.out.lt hpq (by intro e; have h1 := Option.some.inj e; have h2 := HS.out.pr; omega)).trans HS.out.box
        have HCd : Hid (Cur w3.drew g a len cap) := HS.out.cur.below (Below.drew (Below.refl _ _))
        have TM := l1term_any g a len cap w3.drew hlen HCd.out
        go_wp2_with fail
        refine wp_region_held_drew (S := fun w' => Kept q (some g) w3 w') (by kernel_rfl) ?_ (fun hHeld => ?_)
        · exact Kept.drew0 _ _ _
        refine take_at (i := 0) 42 (v := ?v17) rfl rfl (by kernel_rfl) (by kernel_rfl) (by kernel_rfl) (fun _ _ _ h => h) (Or.inl ⟨by rfl, ?y17⟩) hHeld ?r17
        case y17 => (intro w' hSw; skip; go_simp; (try with_reducible rfl))
        try simp only [Act.put, List.setIfInBounds_toArray, List.set_cons_zero, List.set_cons_succ]
        refine take_at (i := 1) 43 (v := ?v18) rfl rfl (by kernel_rfl) (by kernel_rfl) (by kernel_rfl) (fun _ _ _ h => h) (Or.inl ⟨by rfl, ?y18⟩) hHeld ?r18
        case y18 => (intro w' hSw; have hb := HSX.out w' hSw; go_simp; (try with_reducible rfl))
        try simp only [Act.put, List.setIfInBounds_toArray, List.set_cons_zero, List.set_cons_succ]
        refine take_at (i := 2) 44 (v := ?v19) rfl rfl (by kernel_rfl) (by kernel_rfl) (by kernel_rfl) (fun _ _ _ h => h) (Or.inl ⟨by rfl, ?y19⟩) hHeld ?r19
        case y19 => (intro w' hSw; skip; go_simp; (try with_reducible rfl))
        try simp only [Act.put, List.setIfInBounds_toArray, List.set_cons_zero, List.set_cons_succ]
        refine wpAnyH_ready (rs := [3]) (by kernel_rfl) (by simp) ?_
        refine AllReadyH.cons rfl (fun K hK => ?_) AllReadyH.nil
        go_simp
        refine TM.mono ?_
        rintro e w5 ⟨hT, hP5, hC5⟩
        obtain ⟨t, b, rfl, hD, _, _⟩ := hT.dt
        have hP5' : Past g w3 w5 := (Past.of_below (Below.drew (Below.refl _ _))).trans hP5
        have HS5 : Hid (BST g a len cap w w5 p (.slice (some ⟨q, 0, none⟩) n cv) (x :: r)) := HS.out.step hP5' hC5
        have HK5 : Hid (Kept q (some g) w3 w5) := kept_past hP5
        have hD5 : DT w5 (w.heap.size + 1) w5.heap.size t b := hD.mono (by have h1 := HS.out.pr; have h2 := HS.out.lt; show _ ≤ w3.heap.size; omega) (Nat.le_refl _) (Nat.le_refl _)
        have HS6 : Hid (BST g a len cap w ((((w5.setCell ⟨q, 4, none⟩ (.int .i64 t.k)).setCell ⟨q, 5, none⟩ (.slice t.a t.len t.cap)).setCell ⟨q, 6, none⟩ (.int .i64 t.n)).setCell ⟨q, 7, none⟩ (.int .i64 t.s)) p (.slice (some ⟨q, 0, none⟩) n cv) (⟨x.t, t, x.v, x.bt, b, x.bv⟩ :: r)) := HS5.out.set (((((Past.refl q w5).set 4 _).set 5 _).set 6 _).set 7 _) (ownG_setP HS5.out.own t b) (by have h := HS5.out.gy x List.mem_cons_self; exact ⟨h.t, hD5, h.v⟩)
        have b4 := HS5.out.row0 4 _ rfl
        have b5 := HS5.out.row0 5 _ rfl
        have b6 := HS5.out.row0 6 _ rfl
        have b7 := HS5.out.row0 7 _ rfl
        have f4 := ownG_fr HS5.out.own 4
        have f5 := ownG_fr HS5.out.own 5
        have f6 := ownG_fr HS5.out.own 6
        have f7 := ownG_fr HS5.out.own 7
        clear hP5 hC5 hP5' hD hD5 TM HCd
        go_wp2_with fail
        refine hK.out _ _ ?_ (fun hHeld => ?_)
        · exact HK5.out
        clear hK K
        try simp only [Act.put, List.setIfInBounds_toArray, List.set_cons_zero, List.set_cons_succ]
        refine take_at (i := 4) 46 (v := ?v20) rfl rfl (by kernel_rfl) (by kernel_rfl) (by kernel_rfl) (fun _ _ _ h => h) (Or.inl ⟨by rfl, ?y20⟩) hHeld ?r20
        case y20 => (intro w' hSw; skip; go_simp; (try with_reducible rfl))
        try simp only [Act.put, List.setIfInBounds_toArray, List.set_cons_zero, List.set_cons_succ]
        refine take_at (i := 5) 47 (v := ?v21) rfl rfl (by kernel_rfl) (by kernel_rfl) (by kernel_rfl) (fun _ _ _ h => h) (Or.inl ⟨by rfl, ?y21⟩) hHeld ?r21
        case y21 => (intro w' hSw; skip; go_simp; (try with_reducible rfl))
        try simp only [Act.put, List.setIfInBounds_toArray, List.set_cons_zero, List.set_cons_succ]
        refine wpAnyH_ready (rs := [6]) (by kernel_rfl) (by simp) ?_
        refine AllReadyH.cons rfl (fun K hK => ?_) AllReadyH.nil
        go_simp
        refine hK.out _ _ ?_ (fun hHeld => ?_)
        · exact (((HK5.out.set 4 _).set 5 _).set 6 _).set 7 _
        clear hK K
        try simp only [Act.put, List.setIfInBounds_toArray, List.set_cons_zero, List.set_cons_succ]
        refine wpAnyH_done (by kernel_rfl) ?_ _
        generalize ((((w5.setCell ⟨q, 4, none⟩ (.int .i64 t.k)).setCell ⟨q, 5, none⟩ (.slice t.a t.len t.cap)).setCell ⟨q, 6, none⟩ (.int .i64 t.n)).setCell ⟨q, 7, none⟩ (.int .i64 t.s)) = w6 at *
        have x0 := HS6.out.box
        have x1 := HS6.out.r1
        have x2 := HS6.out.r2
        go_wp2_with fail
        have y0 := set_same x1 (v := .slice (some ⟨q, 0, none⟩) n cv)
        refine bodyPost_ret (v := .agg #[.slice (some ⟨q, 0, none⟩) n cv]) (by simp [results, Tryz.results45, go_sem, y0]) rfl ?_
        exact HS6.out.fin (by have h := HNX.out; simp at h ⊢; omega)
      · skip
        have d0 : w3.drew.cell? ⟨p, 0, none⟩ = some (.slice (some ⟨q, 0, none⟩) n cv) := HS.out.box
        have hpq : p ≠ q := fun e => HS.out.own.ne_box HS.out.box (by rw [e]; rfl)
        have HSX : Hid (∀ w', Kept q (some g) w3 w' → w'.cell? ⟨p, 0, none⟩ = some (.slice (some ⟨q, 0, none⟩) n cv)) := fun w' hk => (hk.cell HS.out.lt hpq (by intro e; have h1 := Option.some.inj e; have h2 := HS.out.pr; omega)).trans HS.out.box
        have HCd : Hid (Cur w3.drew g a len cap) := HS.out.cur.below (Below.drew (Below.refl _ _))
        have TM := l1bent_any g a len cap w3.drew hlen HCd.out
        go_wp2_with fail
        refine wp_region_held_drew (S := fun w' => Kept q (some g) w3 w') (by kernel_rfl) ?_ (fun hHeld => ?_)
        · exact Kept.drew0 _ _ _
        refine take_at (i := 0) 50 (v := ?v22) rfl rfl (by kernel_rfl) (by kernel_rfl) (by kernel_rfl) (fun _ _ _ h => h) (Or.inl ⟨by rfl, ?y22⟩) hHeld ?r22
        case y22 => (intro w' hSw; skip; go_simp; (try with_reducible rfl))
        try simp only [Act.put, List.setIfInBounds_toArray, List.set_cons_zero, List.set_cons_succ]
        refine take_at (i := 1) 51 (v := ?v23) rfl rfl (by kernel_rfl) (by kernel_rfl) (by kernel_rfl) (fun _ _ _ h => h) (Or.inl ⟨by rfl, ?y23⟩) hHeld ?r23
        case y23 => (intro w' hSw; have hb := HSX.out w' hSw; go_simp; (try with_reducible rfl))
        try simp only [Act.put, List.setIfInBounds_toArray, List.set_cons_zero, List.set_cons_succ]
        refine take_at (i := 2) 52 (v := ?v24) rfl rfl (by kernel_rfl) (by kernel_rfl) (by kernel_rfl) (fun _ _ _ h => h) (Or.inl ⟨by rfl, ?y24⟩) hHeld ?r24
        case y24 => (intro w' hSw; skip; go_simp; (try with_reducible rfl))
        try simp only [Act.put, List.setIfInBounds_toArray, List.set_cons_zero, List.set_cons_succ]
        refine wpAnyH_ready (rs := [3]) (by kernel_rfl) (by simp) ?_
        refine AllReadyH.cons rfl (fun K hK => ?_) AllReadyH.nil
        go_simp
        refine TM.mono ?_
        rintro e w5 ⟨⟨k5, n5, s5, a5, l5, c5, b, rfl, hn5, hs5, hl5, hB5⟩, hP5, hC5⟩
        obtain ⟨t, ht⟩ : ∃ t : Tm, t = ⟨k5, a5, l5, c5, n5, s5⟩ := ⟨_, rfl⟩
        have hD : DT w5 w3.drew.heap.size w5.heap.size t b := by rw [ht]; exact ⟨⟨hn5.1, hn5.2, hs5.1, hs5.2⟩, hl5, hB5.1, hB5.2, Nat.le_refl _⟩
        obtain ⟨rfl, rfl, rfl, rfl, rfl, rfl⟩ : k5 = t.k ∧ a5 = t.a ∧ l5 = t.len ∧ c5 = t.cap ∧ n5 = t.n ∧ s5 = t.s := by rw [ht]; exact ⟨rfl, rfl, rfl, rfl, rfl, rfl⟩
        clear ht hn5 hs5 hl5 hB5
        have hP5' : Past g w3 w5 := (Past.of_below (Below.drew (Below.refl _ _))).trans hP5
        have HS5 : Hid (BST g a len cap w w5 p (.slice (some ⟨q, 0, none⟩) n cv) (x :: r)) := HS.out.step hP5' hC5
        have HK5 : Hid (Kept q (some g) w3 w5) := kept_past hP5
        have hD5 : DT w5 (w.heap.size + 1) w5.heap.size t b := hD.mono (by have h1 := HS.out.pr; have h2 := HS.out.lt; show _ ≤ w3.heap.size; omega) (Nat.le_refl _) (Nat.le_refl _)
        have HS6 : Hid (BST g a len cap w ((((w5.setCell ⟨q, 0, none⟩ (.int .i64 t.k)).setCell ⟨q, 1, none⟩ (.slice t.a t.len t.cap)).setCell ⟨q, 2, none⟩ (.int .i64 t.n)).setCell ⟨q, 3, none⟩ (.int .i64 t.s)) p (.slice (some ⟨q, 0, none⟩) n cv) (⟨t, x.u, x.v, b, x.bu, x.bv⟩ :: r)) := HS5.out.set (((((Past.refl q w5).set 0 _).set 1 _).set 2 _).set 3 _) (ownG_setS HS5.out.own t b) (by have h := HS5.out.gy x List.mem_cons_self; exact ⟨hD5, h.u, h.v⟩)
        have b0 := HS5.out.row0 0 _ rfl
        have b1 := HS5.out.row0 1 _ rfl
        have b2 := HS5.out.row0 2 _ rfl
        have b3 := HS5.out.row0 3 _ rfl
        have f0 := ownG_fr HS5.out.own 0
        have f1 := ownG_fr HS5.out.own 1
        have f2 := ownG_fr HS5.out.own 2
        have f3 := ownG_fr HS5.out.own 3
        clear hP5 hC5 hP5' hD hD5 TM HCd
        go_wp2_with fail
        refine hK.out _ _ ?_ (fun hHeld => ?_)
        · exact HK5.out
        clear hK K
        try simp only [Act.put, List.setIfInBounds_toArray, List.set_cons_zero, List.set_cons_succ]
        refine take_at (i := 4) 54 (v := ?v25) rfl rfl (by kernel_rfl) (by kernel_rfl) (by kernel_rfl) (fun _ _ _ h => h) (Or.inl ⟨by rfl, ?y25⟩) hHeld ?r25
        case y25 => (intro w' hSw; skip; go_simp; (try with_reducible rfl))
        try simp only [Act.put, List.setIfInBounds_toArray, List.set_cons_zero, List.set_cons_succ]
        refine take_at (i := 5) 55 (v := ?v26) rfl rfl (by kernel_rfl) (by kernel_rfl) (by kernel_rfl) (fun _ _ _ h => h) (Or.inl ⟨by rfl, ?y26⟩) hHeld ?r26
        case y26 => (intro w' hSw; skip; go_simp; (try with_reducible rfl))
        try simp only [Act.put, List.setIfInBounds_toArray, List.set_cons_zero, List.set_cons_succ]
        refine wpAnyH_ready (rs := [6]) (by kernel_rfl) (by simp) ?_
        refine AllReadyH.cons rfl (fun K hK => ?_) AllReadyH.nil
        go_simp
        refine hK.out _ _ ?_ (fun hHeld => ?_)
        · exact (((HK5.out.set 0 _).set 1 _).set 2 _).set 3 _
        clear hK K
        try simp only [Act.put, List.setIfInBounds_toArray, List.set_cons_zero, List.set_cons_succ]
        refine wpAnyH_done (by kernel_rfl) ?_ _
        generalize ((((w5.setCell ⟨q, 0, none⟩ (.int .i64 t.k)).setCell ⟨q, 1, none⟩ (.slice t.a t.len t.cap)).setCell ⟨q, 2, none⟩ (.int .i64 t.n)).setCell ⟨q, 3, none⟩ (.int .i64 t.s)) = w6 at *
        have x0 := HS6.out.box
        have x1 := HS6.out.r1
        have x2 := HS6.out.r2
        go_wp2_with fail
        have y0 := set_same x1 (v := .slice (some ⟨q, 0, none⟩) n cv)
        refine bodyPost_ret (v := .agg #[.slice (some ⟨q, 0, none⟩) n cv]) (by simp [results, Tryz.results45, go_sem, y0]) rfl ?_
        exact HS6.out.fin (by have h := HNX.out; simp at h ⊢; omega)
      · skip
        go_wp2_with fail
        go_loopw [] (fun wr => ∃ (q n cv : Nat) (x : G1) (r : List G1), n ≤ 61 ∧ Hid (n = (x :: r).length) ∧ Hid (BST g a len cap w wr p (.slice (some ⟨q, 0, none⟩) n cv) (x :: r))) (fun wr => mu61 wr p)
        case atStart => exact ⟨q, n, cv, x, r, by omega, HNX, HS⟩
        case round =>
          clear HS HNX hpos hn20 h0
          obtain ⟨q, n, cv, x, r, hn, HNX, HS⟩ := hrel
          have x0 := HS.out.box
          by_cases hle : n ≤ 60
          · have hlez : (n : Int) ≤ 60 := by omega
            have hnp : 0 < n := by have h := HNX.out; simp at h; omega
            have hpos : (0 : Int) < (n : Int) := by omega
            have d0 : wr.drew.cell? ⟨p, 0, none⟩ = some (.slice (some ⟨q, 0, none⟩) n cv) := HS.out.box
            have d1 : ∀ o, (wr.drew.alloc o).cell? ⟨p, 0, none⟩ = some (.slice (some ⟨q, 0, none⟩) n cv) := fun o => ((bl_a o).cell (p := ⟨p, 0, none⟩) HS.out.lt).trans d0
            have d2 : ∀ o, (wr.alloc o).drew.cell? ⟨p, 0, none⟩ = some (.slice (some ⟨q, 0, none⟩) n cv) := d1
            have d3 : ∀ o, (wr.alloc o).cell? ⟨p, 0, none⟩ = some (.slice (some ⟨q, 0, none⟩) n cv) := d1
            have hrow : ∀ c y, (e12 x.t x.u x.v)[c]? = some y → wr.drew.cell? ⟨q, c, none⟩ = some y := HS.out.row0
            have a0 := hrow 0 _ rfl
            have a1 := hrow 1 _ rfl
            have a2 := hrow 2 _ rfl
            have a3 := hrow 3 _ rfl
            have a4 := hrow 4 _ rfl
            have a5 := hrow 5 _ rfl
            have a6 := hrow 6 _ rfl
            have a7 := hrow 7 _ rfl
            have a8 := hrow 8 _ rfl
            have a9 := hrow 9 _ rfl
            have a10 := hrow 10 _ rfl
            have a11 := hrow 11 _ rfl
            have HOa : Hid (OwnG (wr.drew.alloc (.cells #[.int .i64 x.t.k, .slice x.t.a x.t.len x.t.cap, .int .i64 x.t.n, .int .i64 x.t.s, .int .i64 x.u.k, .slice x.u.a x.u.len x.u.cap, .int .i64 x.u.n, .int .i64 x.u.s, .int .i64 x.v.k, .slice x.v.a x.v.len x.v.cap, .int .i64 x.v.n, .int .i64 x.v.s] 36)) (w.heap.size + 1) (.slice (some ⟨q, 0, none⟩) n cv) (x :: r)) := HS.out.own.below (bl_trans (Below.drew (Below.refl _ _)) (bl_a _))
            have HNa : Hid (∀ j u, (flatG [x])[j]? = some u → (wr.drew.alloc (.cells #[.int .i64 x.t.k, .slice x.t.a x.t.len x.t.cap, .int .i64 x.t.n, .int .i64 x.t.s, .int .i64 x.u.k, .slice x.u.a x.u.len x.u.cap, .int .i64 x.u.n, .int .i64 x.u.s, .int .i64 x.v.k, .slice x.v.a x.v.len x.v.cap, .int .i64 x.v.n, .int .i64 x.v.s] 36)).cell? ((⟨wr.drew.heap.size, 0, none⟩ : Addr).add j) = some u) := news1 _ x
            have hNa : (x :: r).length + 1 = n + 1 := by rw [← HNX.out]
            have hBa : w.heap.size + 1 ≤ (wr.drew.alloc (.cells #[.int .i64 x.t.k, .slice x.t.a x.t.len x.t.cap, .int .i64 x.t.n, .int .i64 x.t.s, .int .i64 x.u.k, .slice x.u.a x.u.len x.u.cap, .int .i64 x.u.n, .int .i64 x.u.s, .int .i64 x.v.k, .slice x.v.a x.v.len x.v.cap, .int .i64 x.v.n, .int .i64 x.v.s] 36)).heap.size := by have h1 := HS.out.pr; have h2 := HS.out.lt; simp; omega
            have HAP : Hid (∀ w9 q9 c9, OwnG w9 (w.heap.size + 1) (.slice (some ⟨q9, 0, none⟩) (n + 1) c9) ((x :: r) ++ [x]) → (wr.drew.alloc (.cells #[.int .i64 x.t.k, .slice x.t.a x.t.len x.t.cap, .int .i64 x.t.n, .int .i64 x.t.s, .int .i64 x.u.k, .slice x.u.a x.u.len x.u.cap, .int .i64 x.u.n, .int .i64 x.u.s, .int .i64 x.v.k, .slice x.v.a x.v.len x.v.cap, .int .i64 x.v.n, .int .i64 x.v.s] 36)).grownBy w9 (some q) → (w9.cell? ⟨p, 0, none⟩ = some (.slice (some ⟨q, 0, none⟩) n cv) ∧ w9.frozen? ⟨p, 0, none⟩ = false) ∧ BST g a len cap w (w9.setCell ⟨p, 0, none⟩ (.slice (some ⟨q9, 0, none⟩) (n + 1) c9)) p (.slice (some ⟨q9, 0, none⟩) (n + 1) c9) ((x :: r) ++ [x])) := fun w9 q9 c9 h1 h2 => HS.out.app h2 h1 (fun y hy => by rcases List.mem_append.1 hy with h | h; exact h; rw [List.mem_singleton.1 h]; exact List.mem_cons_self) (by simp)
            clear hrow
            go_wp2_with fail
            refine wp_region_held_drew (S := fun w' => Kept p (some q) wr w') (by kernel_rfl) ?_ (fun hHeld => ?_)
            · exact Kept.drew0 _ _ _
            refine take_at (i := 0) 20 (v := ?v9) rfl rfl (by kernel_rfl) (by kernel_rfl) (by kernel_rfl) (fun _ _ _ h => h) (Or.inl ⟨by rfl, ?y9⟩) hHeld ?r9
            case y9 => (intro w' hSw; skip; go_simp; (try with_reducible rfl))
            try simp only [Act.put, List.setIfInBounds_toArray, List.set_cons_zero, List.set_cons_succ]
            refine take_at (i := 2) 22 (v := ?v10) rfl rfl (by kernel_rfl) (by kernel_rfl) (by kernel_rfl) (fun _ _ _ h => h) (Or.inl ⟨by rfl, ?y10⟩) hHeld ?r10
            case y10 => (intro w' hSw; skip; go_simp; (try with_reducible rfl))
            try simp only [Act.put, List.setIfInBounds_toArray, List.set_cons_zero, List.set_cons_succ]
            refine wpAnyH_ready (rs := [1, 3]) (by kernel_rfl) (by simp) ?_
            refine AllReadyH.cons rfl (fun K hK => ?_) (AllReadyH.cons rfl (fun K hK => ?_) AllReadyH.nil)
            · go_simp
              refine hK.out _ _ ?_ (fun hHeld => ?_)
              · exact Kept.drew0 _ _ _
              clear hK K
              try simp only [Act.put, List.setIfInBounds_toArray, List.set_cons_zero, List.set_cons_succ]
              refine wpAnyH_ready (rs := [3]) (by kernel_rfl) (by simp) ?_
              refine AllReadyH.cons rfl (fun K hK => ?_) AllReadyH.nil
              go_simp
              refine hK.out _ _ ?_ (fun hHeld => ?_)
              · exact Kept.drew0 _ _ _
              clear hK K
              try simp only [Act.put, List.setIfInBounds_toArray, List.set_cons_zero, List.set_cons_succ]
              refine take_at (i := 4) 24 (v := ?v11) rfl rfl (by kernel_rfl) (by kernel_rfl) (by kernel_rfl) (fun _ _ _ h => h) (Or.inl ⟨by rfl, ?y11⟩) hHeld ?r11
              case y11 => (intro w' hSw; skip; go_simp; (try with_reducible rfl))
              try simp only [Act.put, List.setIfInBounds_toArray, List.set_cons_zero, List.set_cons_succ]
              refine wpAnyH_ready (rs := [5]) (by kernel_rfl) (by simp) ?_
              refine AllReadyH.cons rfl (fun K hK => ?_) AllReadyH.nil
              go_simp
              refine hK.out _ _ ?_ (fun hHeld => ?_)
              · exact Kept.drew0 _ _ _
              clear hK K
              try simp only [Act.put, List.setIfInBounds_toArray, List.set_cons_zero, List.set_cons_succ]
              refine wpAnyH_ready (rs := [6]) (by kernel_rfl) (by simp) ?_
              refine AllReadyH.cons rfl (fun K hK => ?_) AllReadyH.nil
              go_simp
              refine hK.out _ _ ?_ (fun hHeld => ?_)
              · exact (Kept.drew0 _ _ _).alloc _
              clear hK K
              try simp only [Act.put, List.setIfInBounds_toArray, List.set_cons_zero, List.set_cons_succ]
              refine wpAnyH_ready (rs := [7]) (by kernel_rfl) (by simp) ?_
              refine AllReadyH.cons rfl (fun K hK => ?_) AllReadyH.nil
              refine stepG rfl (.tmp 21) (.tmp 26) rfl (w.heap.size + 1) (.slice (some ⟨q, 0, none⟩) n cv) (x :: r) rfl HOa ⟨wr.drew.heap.size, 0, none⟩ 1 1 [x] rfl rfl HNa (by omega) (n + 1) hNa ((x :: r) ++ [x]) rfl (by omega) hBa ?_
              intro q9 c9 w9 HO9 HG9
              have HZ := HAP.out w9 q9 c9 HO9.out HG9.out
              have z0 := HZ.1.1
              have z1 := HZ.1.2
              refine hK.out _ _ ?_ (fun hHeld => ?_)
              · exact ((Kept.drew0 _ _ _).alloc _).grown HG9.out
              clear hK K
              try simp only [Act.put, List.setIfInBounds_toArray]
              refine take_at (i := 8) 28 (v := ?v12) rfl rfl (by kernel_rfl) (by kernel_rfl) (by kernel_rfl) (fun _ _ _ h => h) (Or.inl ⟨by rfl, ?y12⟩) hHeld ?r12
              case y12 => (intro w' hSw; skip; go_simp; (try with_reducible rfl))
              try simp only [Act.put]
              refine wpAnyH_ready (rs := [9]) (by kernel_rfl) (by simp) ?_
              refine AllReadyH.cons rfl (fun K hK => ?_) AllReadyH.nil
              go_simp
              refine hK.out _ _ ?_ (fun hHeld => ?_)
              · exact (((Kept.drew0 _ _ _).alloc _).grown HG9.out).set 0 _
              clear hK K
              try simp only [Act.put, List.setIfInBounds_toArray, List.set_cons_zero, List.set_cons_succ]
              refine wpAnyH_done (by kernel_rfl) ?_ _
              have HS9 : Hid (BST g a len cap w (w9.setCell ⟨p, 0, none⟩ (.slice (some ⟨q9, 0, none⟩) (n + 1) c9)) p (.slice (some ⟨q9, 0, none⟩) (n + 1) c9) ((x :: r) ++ [x])) := HZ.2
              clear HZ z0 z1
              generalize w9.setCell ⟨p, 0, none⟩ (.slice (some ⟨q9, 0, none⟩) (n + 1) c9) = w10 at *
              go_wp2_with fail
              go_roundw
              case rel => exact ⟨q9, n + 1, c9, x, r ++ [x], by omega, (show n + 1 = (x :: (r ++ [x])).length by have h := HNX.out; simp at h ⊢; omega), HS9⟩
              case measure => (rw [mu61_of HS9.out.box, mu61_of HS.out.box]; omega)
            · go_simp
              refine hK.out _ _ ?_ (fun hHeld => ?_)
              · exact Kept.drew0 _ _ _
              clear hK K
              try simp only [Act.put, List.setIfInBounds_toArray, List.set_cons_zero, List.set_cons_succ]
              refine take_at (i := 4) 24 (v := ?v13) rfl rfl (by kernel_rfl) (by kernel_rfl) (by kernel_rfl) (fun _ _ _ h => h) (Or.inl ⟨by rfl, ?y13⟩) hHeld ?r13
              case y13 => (intro w' hSw; skip; go_simp; (try with_reducible rfl))
              try simp only [Act.put, List.setIfInBounds_toArray, List.set_cons_zero, List.set_cons_succ]
              refine wpAnyH_ready (rs := [1, 5]) (by kernel_rfl) (by simp) ?_
              refine AllReadyH.cons rfl (fun K hK => ?_) (AllReadyH.cons rfl (fun K hK => ?_) AllReadyH.nil)
              · go_simp
                refine hK.out _ _ ?_ (fun hHeld => ?_)
                · exact Kept.drew0 _ _ _
                clear hK K
                try simp only [Act.put, List.setIfInBounds_toArray, List.set_cons_zero, List.set_cons_succ]
                refine wpAnyH_ready (rs := [5]) (by kernel_rfl) (by simp) ?_
                refine AllReadyH.cons rfl (fun K hK => ?_) AllReadyH.nil
                go_simp
                refine hK.out _ _ ?_ (fun hHeld => ?_)
                · exact Kept.drew0 _ _ _
                clear hK K
                try simp only [Act.put, List.setIfInBounds_toArray, List.set_cons_zero, List.set_cons_succ]
                refine wpAnyH_ready (rs := [6]) (by kernel_rfl) (by simp) ?_
                refine AllReadyH.cons rfl (fun K hK => ?_) AllReadyH.nil
                go_simp
                refine hK.out _ _ ?_ (fun hHeld => ?_)
                · exact (Kept.drew0 _ _ _).alloc _
                clear hK K
                try simp only [Act.put, List.setIfInBounds_toArray, List.set_cons_zero, List.set_cons_succ]
                refine wpAnyH_ready (rs := [7]) (by kernel_rfl) (by simp) ?_
                refine AllReadyH.cons rfl (fun K hK => ?_) AllReadyH.nil
                refine stepG rfl (.tmp 21) (.tmp 26) rfl (w.heap.size + 1) (.slice (some ⟨q, 0, none⟩) n cv) (x :: r) rfl HOa ⟨wr.drew.heap.size, 0, none⟩ 1 1 [x] rfl rfl HNa (by omega) (n + 1) hNa ((x :: r) ++ [x]) rfl (by omega) hBa ?_
                intro q9 c9 w9 HO9 HG9
                have HZ := HAP.out w9 q9 c9 HO9.out HG9.out
                have z0 := HZ.1.1
                have z1 := HZ.1.2
                refine hK.out _ _ ?_ (fun hHeld => ?_)
                · exact ((Kept.drew0 _ _ _).alloc _).grown HG9.out
                clear hK K
                try simp only [Act.put, List.setIfInBounds_toArray]
                refine take_at (i := 8) 28 (v := ?v14) rfl rfl (by kernel_rfl) (by kernel_rfl) (by kernel_rfl) (fun _ _ _ h => h) (Or.inl ⟨by rfl, ?y14⟩) hHeld ?r14
                case y14 => (intro w' hSw; skip; go_simp; (try with_reducible rfl))
                try simp only [Act.put]
                refine wpAnyH_ready (rs := [9]) (by kernel_rfl) (by simp) ?_
                refine AllReadyH.cons rfl (fun K hK => ?_) AllReadyH.nil
                go_simp
                refine hK.out _ _ ?_ (fun hHeld => ?_)
                · exact (((Kept.drew0 _ _ _).alloc _).grown HG9.out).set 0 _
                clear hK K
                try simp only [Act.put, List.setIfInBounds_toArray, List.set_cons_zero, List.set_cons_succ]
                refine wpAnyH_done (by kernel_rfl) ?_ _
                have HS9 : Hid (BST g a len cap w (w9.setCell ⟨p, 0, none⟩ (.slice (some ⟨q9, 0, none⟩) (n + 1) c9)) p (.slice (some ⟨q9, 0, none⟩) (n + 1) c9) ((x :: r) ++ [x])) := HZ.2
                clear HZ z0 z1
                generalize w9.setCell ⟨p, 0, none⟩ (.slice (some ⟨q9, 0, none⟩) (n + 1) c9) = w10 at *
                go_wp2_with fail
                go_roundw
                case rel => exact ⟨q9, n + 1, c9, x, r ++ [x], by omega, (show n + 1 = (x :: (r ++ [x])).length by have h := HNX.out; simp at h ⊢; omega), HS9⟩
                case measure => (rw [mu61_of HS9.out.box, mu61_of HS.out.box]; omega)
              · go_simp
                refine hK.out _ _ ?_ (fun hHeld => ?_)
                · exact Kept.drew0 _ _ _
                clear hK K
                try simp only [Act.put, List.setIfInBounds_toArray, List.set_cons_zero, List.set_cons_succ]
                refine wpAnyH_ready (rs := [1, 6]) (by kernel_rfl) (by simp) ?_
                refine AllReadyH.cons rfl (fun K hK => ?_) (AllReadyH.cons rfl (fun K hK => ?_) AllReadyH.nil)
                · go_simp
                  refine hK.out _ _ ?_ (fun hHeld => ?_)
                  · exact Kept.drew0 _ _ _
                  clear hK K
                  try simp only [Act.put, List.setIfInBounds_toArray, List.set_cons_zero, List.set_cons_succ]
                  refine wpAnyH_ready (rs := [6]) (by kernel_rfl) (by simp) ?_
                  refine AllReadyH.cons rfl (fun K hK => ?_) AllReadyH.nil
                  go_simp
                  refine hK.out _ _ ?_ (fun hHeld => ?_)
                  · exact (Kept.drew0 _ _ _).alloc _
                  clear hK K
                  try simp only [Act.put, List.setIfInBounds_toArray, List.set_cons_zero, List.set_cons_succ]
                  refine wpAnyH_ready (rs := [7]) (by kernel_rfl) (by simp) ?_
                  refine AllReadyH.cons rfl (fun K hK => ?_) AllReadyH.nil
                  refine stepG rfl (.tmp 21) (.tmp 26) rfl (w.heap.size + 1) (.slice (some ⟨q, 0, none⟩) n cv) (x :: r) rfl HOa ⟨wr.drew.heap.size, 0, none⟩ 1 1 [x] rfl rfl HNa (by omega) (n + 1) hNa ((x :: r) ++ [x]) rfl (by omega) hBa ?_
                  intro q9 c9 w9 HO9 HG9
                  have HZ := HAP.out w9 q9 c9 HO9.out HG9.out
                  have z0 := HZ.1.1
                  have z1 := HZ.1.2
                  refine hK.out _ _ ?_ (fun hHeld => ?_)
                  · exact ((Kept.drew0 _ _ _).alloc _).grown HG9.out
                  clear hK K
                  try simp only [Act.put, List.setIfInBounds_toArray]
                  refine take_at (i := 8) 28 (v := ?v15) rfl rfl (by kernel_rfl) (by kernel_rfl) (by kernel_rfl) (fun _ _ _ h => h) (Or.inl ⟨by rfl, ?y15⟩) hHeld ?r15
                  case y15 => (intro w' hSw; skip; go_simp; (try with_reducible rfl))
                  try simp only [Act.put]
                  refine wpAnyH_ready (rs := [9]) (by kernel_rfl) (by simp) ?_
                  refine AllReadyH.cons rfl (fun K hK => ?_) AllReadyH.nil
                  go_simp
                  refine hK.out _ _ ?_ (fun hHeld => ?_)
                  · exact (((Kept.drew0 _ _ _).alloc _).grown HG9.out).set 0 _
                  clear hK K
                  try simp only [Act.put, List.setIfInBounds_toArray, List.set_cons_zero, List.set_cons_succ]
                  refine wpAnyH_done (by kernel_rfl) ?_ _
                  have HS9 : Hid (BST g a len cap w (w9.setCell ⟨p, 0, none⟩ (.slice (some ⟨q9, 0, none⟩) (n + 1) c9)) p (.slice (some ⟨q9, 0, none⟩) (n + 1) c9) ((x :: r) ++ [x])) := HZ.2
                  clear HZ z0 z1
                  generalize w9.setCell ⟨p, 0, none⟩ (.slice (some ⟨q9, 0, none⟩) (n + 1) c9) = w10 at *
                  go_wp2_with fail
                  go_roundw
                  case rel => exact ⟨q9, n + 1, c9, x, r ++ [x], by omega, (show n + 1 = (x :: (r ++ [x])).length by have h := HNX.out; simp at h ⊢; omega), HS9⟩
                  case measure => (rw [mu61_of HS9.out.box, mu61_of HS.out.box]; omega)
                · go_simp
                  refine hK.out _ _ ?_ (fun hHeld => ?_)
                  · exact (Kept.drew0 _ _ _).alloc _
                  clear hK K
                  try simp only [Act.put, List.setIfInBounds_toArray, List.set_cons_zero, List.set_cons_succ]
                  refine wpAnyH_ready (rs := [1]) (by kernel_rfl) (by simp) ?_
                  refine AllReadyH.cons rfl (fun K hK => ?_) AllReadyH.nil
                  go_simp
                  refine hK.out _ _ ?_ (fun hHeld => ?_)
                  · exact (Kept.drew0 _ _ _).alloc _
                  clear hK K
                  try simp only [Act.put, List.setIfInBounds_toArray, List.set_cons_zero, List.set_cons_succ]
                  refine wpAnyH_ready (rs := [7]) (by kernel_rfl) (by simp) ?_
                  refine AllReadyH.cons rfl (fun K hK => ?_) AllReadyH.nil
                  refine stepG rfl (.tmp 21) (.tmp 26) rfl (w.heap.size + 1) (.slice (some ⟨q, 0, none⟩) n cv) (x :: r) rfl HOa ⟨wr.drew.heap.size, 0, none⟩ 1 1 [x] rfl rfl HNa (by omega) (n + 1) hNa ((x :: r) ++ [x]) rfl (by omega) hBa ?_
                  intro q9 c9 w9 HO9 HG9
                  have HZ := HAP.out w9 q9 c9 HO9.out HG9.out
                  have z0 := HZ.1.1
                  have z1 := HZ.1.2
                  refine hK.out _ _ ?_ (fun hHeld => ?_)
                  · exact ((Kept.drew0 _ _ _).alloc _).grown HG9.out
                  clear hK K
                  try simp only [Act.put, List.setIfInBounds_toArray]
                  refine take_at (i := 8) 28 (v := ?v16) rfl rfl (by kernel_rfl) (by kernel_rfl) (by kernel_rfl) (fun _ _ _ h => h) (Or.inl ⟨by rfl, ?y16⟩) hHeld ?r16
                  case y16 => (intro w' hSw; skip; go_simp; (try with_reducible rfl))
                  try simp only [Act.put]
                  refine wpAnyH_ready (rs := [9]) (by kernel_rfl) (by simp) ?_
                  refine AllReadyH.cons rfl (fun K hK => ?_) AllReadyH.nil
                  go_simp
                  refine hK.out _ _ ?_ (fun hHeld => ?_)
                  · exact (((Kept.drew0 _ _ _).alloc _).grown HG9.out).set 0 _
                  clear hK K
                  try simp only [Act.put, List.setIfInBounds_toArray, List.set_cons_zero, List.set_cons_succ]
                  refine wpAnyH_done (by kernel_rfl) ?_ _
                  have HS9 : Hid (BST g a len cap w (w9.setCell ⟨p, 0, none⟩ (.slice (some ⟨q9, 0, none⟩) (n + 1) c9)) p (.slice (some ⟨q9, 0, none⟩) (n + 1) c9) ((x :: r) ++ [x])) := HZ.2
                  clear HZ z0 z1
                  generalize w9.setCell ⟨p, 0, none⟩ (.slice (some ⟨q9, 0, none⟩) (n + 1) c9) = w10 at *
                  go_wp2_with fail
                  go_roundw
                  case rel => exact ⟨q9, n + 1, c9, x, r ++ [x], by omega, (show n + 1 = (x :: (r ++ [x])).length by have h := HNX.out; simp at h ⊢; omega), HS9⟩
                  case measure => (rw [mu61_of HS9.out.box, mu61_of HS.out.box]; omega)
          · have hlez : ¬ (n : Int) ≤ 60 := by omega
            have x0 := HS.out.box
            have x1 := HS.out.r1
            have x2 := HS.out.r2
            go_wp2_with fail
            have y0 := set_same x1 (v := .slice (some ⟨q, 0, none⟩) n cv)
            refine bodyPost_ret (v := .agg #[.slice (some ⟨q, 0, none⟩) n cv]) (by simp [results, Tryz.results45, go_sem, y0]) rfl ?_
            exact HS.out.fin (by have h := HNX.out; omega)
end Go.Proofs.YtoclingolfdfeaaGreatDoor
