/- Texts put together: LxO -/
import Derived.Test.YtoclingolfdfeaaGreatDoorMk23
import Derived.Test.YtoclingolfdfeaaGreatDoorMk08
import Derived.Test.YtoclingolfdfeaaGreatDoorMk25
/- LxO -/
namespace Go.Proofs.YtoclingolfdfeaaGreatDoor
open Go.RowKit Go.Deep
set_option maxRecDepth 100000

theorem text_short {k n s : Int} {b : List Int} (h : termOk k b n s = true) : b.length ≤ 100 := by
  unfold termOk nameOk textOk at h
  split at h
  · simp only [Bool.and_eq_true, decide_eq_true_eq] at h
    omega
  split at h
  · simp only [Bool.and_eq_true, beq_iff_eq] at h
    omega
  split at h
  · simp only [Bool.and_eq_true, decide_eq_true_eq] at h
    omega
  split at h
  · simp only [Bool.and_eq_true, beq_iff_eq] at h
    omega
  · cases h
/-- A triple's texts, each at the beginning of its block. -/
def G1.lies0 (y : G1) (w : World) : Prop := Bs0 w y.t.a y.t.len y.bt ∧ Bs0 w y.u.a y.u.len y.bu ∧ Bs0 w y.v.a y.v.len y.bv
theorem G1.lies0.below {y : G1} {w w' : World} (h : y.lies0 w) (hb : Below w.heap.size w w') : y.lies0 w' := ⟨h.1.below hb, h.2.1.below hb, h.2.2.below hb⟩
theorem G1.lies0.set {y : G1} {w : World} (h : y.lies0 w) {c : Nat} {x : Value} (hx : w.cell? ⟨c, 0, none⟩ = some x) (hne : ∀ n, x ≠ .int .u8 n) (j : Nat) (v : Value) : y.lies0 (w.setCell ⟨c, j, none⟩ v) := ⟨h.1.set hx hne j v, h.2.1.set hx hne j v, h.2.2.set hx hne j v⟩
theorem G1.lies0.lies {y : G1} {w : World} (h : y.lies0 w) : y.lies w := ⟨h.1.1, h.2.1.1, h.2.2.1⟩
theorem slice_ne (a : Option Addr) (n c : Nat) : ∀ k, Value.slice a n c ≠ .int .u8 k := fun k h => by cases h
/-- What was appended to leaves texts alone. -/
theorem Bs0.grownG {w w' : World} {B : Nat} {v : Value} {l : List G1} (hO : OwnG w B v l) (hn : l = [] → v = .slice none 0 0) (hg : w.grownBy w' v.ownBlock) {a : Option Addr} {len : Nat} {bs : List Int} (h : Bs0 w a len bs) : Bs0 w' a len bs := by
  refine ⟨?_, h.2⟩
  obtain ⟨h1, h2, h3, h4⟩ := h.1
  by_cases h0 : len = 0
  · exact ⟨h1, h2, h3, .inl h0⟩
  obtain ⟨g, e2⟩ := h.2.resolve_left h0
  obtain ⟨b, off, e, hl, hc⟩ := h4.resolve_left h0
  rw [e2] at e
  simp only [Option.some.injEq, Addr.mk.injEq] at e
  obtain ⟨e3, e4, _⟩ := e
  subst e3 e4
  have hne : v.ownBlock ≠ some g := fun hv => by
    rcases hO.form with ⟨e, _⟩ | ⟨g', cap, e, _, _, _, hcs⟩
    · rw [e] at hv
      cases hv
    · rw [e] at hv
      have : g' = g := by simpa [Value.ownBlock] using hv
      subst this
      have hl0 : l ≠ [] := fun h => by
        rw [hn h] at e
        cases e
      obtain ⟨m, r, rfl⟩ := List.exists_cons_of_ne_nil hl0
      have k1 := hcs 0 (.int .i64 m.t.k) rfl
      have k2 := hc 0 (by omega)
      rw [Nat.add_zero, k1] at k2
      cases k2
  refine ⟨h1, h2, h3, .inr ⟨g, 0, e2, Nat.lt_of_lt_of_le hl hg.size, fun i hi => ?_⟩⟩
  rw [World.cell?_of_block (w := w) (a := ⟨g, 0 + i, none⟩) (hg.block g hl (fun e => hne e.symm))]
  exact hc i hi
/-- Where l2own stands. -/
structure OwnSt (l : List G1) (a : Option Addr) (cap : Nat) (w : World) (i : Nat) (v : Value) (L : List G1) (wr : World) : Prop where
  own : OwnG wr (w.heap.size + 3) v L
  nil : L = [] → v = .slice none 0 0
  tds : L.map G1.td3 = (l.take i).map G1.td3
  lies : ∀ y ∈ L, y.lies0 wr ∧ y.good
  gb : Bx wr w.heap.size [.slice a l.length cap]
  rb : Bx wr (w.heap.size + 1) [.slice none 0 0]
  ob : Bx wr (w.heap.size + 2) [v]
  bel : Below w.heap.size w wr
/-- What l2own answers. -/
def OwnAns (l : List G1) (w : World) (e : Ending) (w' : World) : Prop :=
  ∃ v L, e = .returned (.agg #[v]) ∧ OwnG w' w.heap.size v L ∧ L.map G1.td3 = l.map G1.td3 ∧ (∀ y ∈ L, y.lies0 w' ∧ y.good) ∧ (L = [] → v = .slice none 0 0) ∧ Below w.heap.size w w'
theorem Bx.grown {w w' : World} {b : Nat} {cs : List Value} {o : Option Nat} (h : Bx w b cs) (hg : w.grownBy w' o) (hne : o ≠ Option.some b) : Bx w' b cs := by
  have e : w'.heap[b]? = w.heap[b]? := hg.block b h.lt (fun e => hne e.symm)
  exact ⟨Nat.lt_of_lt_of_le h.lt hg.size, fun j x hx => (World.cell?_of_block (w := w) (a := ⟨b, j, none⟩) e).trans (h.c j x hx), fun j hj => (World.frozen?_of_block (w := w) (a := ⟨b, j, none⟩) e).trans (h.f j hj)⟩
/-- A triple with texts of its own. -/
def reText (x : G1) (g1 c1 g2 c2 g3 c3 : Nat) : G1 := ⟨⟨x.t.k, some ⟨g1, 0, none⟩, x.t.len, c1, x.t.n, x.t.s⟩, ⟨x.u.k, some ⟨g2, 0, none⟩, x.u.len, c2, x.u.n, x.u.s⟩, ⟨x.v.k, some ⟨g3, 0, none⟩, x.v.len, c3, x.v.n, x.v.s⟩, x.bt, x.bu, x.bv⟩
theorem own_step {l : List G1} {a : Option Addr} {cap : Nat} {w : World} {i : Nat} {v : Value} {L : List G1} {w1 wd w9 : World} {x : G1} {g1 c1 g2 c2 g3 c3 g9 n9 c9 : Nat} {B1 B2 B3 : Nat} (h : OwnSt l a cap w i v L w1) (hx : l[i]? = some x) (hg : x.good) (hb : Below w1.heap.size w1 wd)
    (h1 : Tz wd B1 (some ⟨g1, 0, none⟩) x.t.len c1 x.bt) (h2 : Tz wd B2 (some ⟨g2, 0, none⟩) x.u.len c2 x.bu) (h3 : Tz wd B3 (some ⟨g3, 0, none⟩) x.v.len c3 x.bv)
    (hO : OwnG w9 (w.heap.size + 3) (.slice (some ⟨g9, 0, none⟩) n9 c9) (L ++ [reText x g1 c1 g2 c2 g3 c3])) (hgr : wd.grownBy w9 v.ownBlock) :
    OwnSt l a cap w (i + 1) (.slice (some ⟨g9, 0, none⟩) n9 c9) (L ++ [reText x g1 c1 g2 c2 g3 c3]) (w9.setCell ⟨w.heap.size + 2, 0, none⟩ (.slice (some ⟨g9, 0, none⟩) n9 c9)) := by
  have hne : ∀ b, b < w.heap.size + 3 → v.ownBlock ≠ some b := fun b hb e => by
    have := (h.own.2 b e).1
    omega
  have hOd := h.own.below hb
  have ob9 := (h.ob.below hb).grown hgr (hne _ (by omega))
  have hc9 := ob9.c 0 _ rfl
  have hsl : ∀ k, v ≠ .int .u8 k := fun k e => by
    rcases h.own.form with ⟨e2, _⟩ | ⟨_, _, e2, _⟩
    · rw [e2] at e
      cases e
    · rw [e2] at e
      cases e
  have up : ∀ {aa : Option Addr} {ll : Nat} {bb : List Int}, Bs0 wd aa ll bb → Bs0 (w9.setCell ⟨w.heap.size + 2, 0, none⟩ (.slice (some ⟨g9, 0, none⟩) n9 c9)) aa ll bb := fun hx => (Bs0.grownG hOd h.nil hgr hx).set hc9 hsl 0 _
  refine ⟨hO.past ((Past.refl (w.heap.size + 2) w9).set 0 _) (by omega), fun e => by simp at e, ?_, fun y hy => ?_, ?_, ?_, ?_, ?_⟩
  · rw [List.map_append, h.tds, List.take_add_one, hx, List.map_append]
    rfl
  · rcases List.mem_append.1 hy with hy | hy
    · obtain ⟨k1, k2⟩ := h.lies y hy
      have k1 := k1.below hb
      exact ⟨⟨up k1.1, up k1.2.1, up k1.2.2⟩, k2⟩
    · rw [List.mem_singleton.1 hy]
      exact ⟨⟨up h1.bs0, up h2.bs0, up h3.bs0⟩, hg⟩
  · exact ((h.gb.below hb).grown hgr (hne _ (by omega))).other 0 _ (by omega)
  · exact ((h.rb.below hb).grown hgr (hne _ (by omega))).other 0 _ (by omega)
  · exact ob9.set 0 _ (by simp)
  · have k1 : Below w.heap.size w wd := bl_trans h.bel hb
    have k2 : Below w.heap.size wd w9 := ⟨hgr.os, hgr.tape, hgr.output, hgr.size, fun b hb' => hgr.block b (Nat.lt_of_lt_of_le hb' k1.size) (fun e => hne b (by omega) e.symm)⟩
    exact (k1.trans k2).setCell (p := ⟨w.heap.size + 2, 0, none⟩) (by show w.heap.size ≤ w.heap.size + 2; omega) _
set_option maxHeartbeats 16000000 in
theorem l2own_any (a : Option Addr) (cap : Nat) (l : List G1) (w : World) (B : Nat) (hO : OwnG w B (.slice a l.length cap) l) (hg : ∀ y ∈ l, y.good ∧ y.lies w) (hl : l.length ≤ 1000) :
    Calls Tryz.prog 53 #[.agg #[.slice a l.length cap]] w (OwnAns l w) := by
  have HOL : Hid (OwnG w B (.slice a l.length cap) l) := hO
  have HGL : Hid (∀ y ∈ l, y.good ∧ y.lies w) := hg
  have HS0 : Hid (OwnSt l a cap w 0 (.slice none 0 0) [] (((w.alloc (.cells #[.slice a l.length cap] 30)).alloc (.cells #[.slice none 0 0] 30)).alloc (.cells #[.slice none 0 0] 30))) := ⟨OwnG.nil _ _, fun _ => rfl, rfl, fun y hy => (by cases hy), ((Bx.new w _ _ 30 rfl).below (bl_a _)).below (bl_a _), (Bx.new (w.alloc (.cells #[.slice a l.length cap] 30)) _ _ 30 (by simp)).below (bl_a _), Bx.new _ _ _ 30 (by simp), bl_alloc (bl_alloc (bl_a _) _) _⟩
  obtain ⟨n, hn⟩ : ∃ n, n = l.length := ⟨_, rfl⟩
  have HN : Hid (n = l.length) := hn
  rw [← hn] at hl ⊢
  clear hO hg
  go_enter Tryz.func53, Tryz.ntmps53
  go_wp2_with fail
  rw [hn]
  rw [hn] at hl
  clear hn HN n
  go_loopw [4] (fun iv wr => ∃ (i : Nat) (v : Value) (L : List G1), iv = .int .i64 i ∧ i ≤ l.length ∧ Hid (OwnSt l a cap w i v L wr)) (fun iv _ => l.length - (intOf iv).toNat)
  case atStart => exact ⟨0, _, [], rfl, Nat.zero_le _, HS0⟩
  case round =>
    obtain ⟨i, v, L, rfl, hi, HS⟩ := hrel
    clear HS0
    obtain ⟨va, vn, vc, hv⟩ := HS.out.own.slice
    subst hv
    obtain ⟨n, hn⟩ : ∃ n, n = l.length := ⟨_, rfl⟩
    have HN : Hid (n = l.length) := hn
    have q0 := HS.out.gb.c 0 _ rfl
    rw [← hn] at q0 hi
    clear hn
    have hn3 : n ≤ 1000 := by have := HN.out; omega
    by_cases hlt : i < n
    · have hltz : (i : Int) < (n : Int) := by omega
      have HLT : Hid (i + 1 ≤ l.length) := by have := HN.out; show i + 1 ≤ l.length; omega
      obtain ⟨x, hx⟩ : ∃ x, l[i]? = some x := ⟨_, List.getElem?_eq_getElem (by rw [← HN.out]; exact hlt)⟩
      have hxm : x ∈ l := List.mem_of_getElem? hx
      obtain ⟨hxg, hxl⟩ := HGL.out x hxm
      have hok := tripleOk_out hxg.2.2.2
      have L1 := text_short hok.1
      have L2 := text_short hok.2.1
      have L3 := text_short hok.2.2
      rw [hxl.1.1] at L1
      rw [hxl.2.1.1] at L2
      rw [hxl.2.2.1] at L3
      have HC1 : Hid (∀ W, Below w.heap.size w W → Calls Tryz.prog 82 #[.agg #[.int .i64 x.t.k, .slice x.t.a x.t.len x.t.cap, .int .i64 x.t.n, .int .i64 x.t.s]] W (OwnTA x.t x.bt W)) := fun W hW => l2ownTerm_z x.t x.bt W (hxl.1.below hW) (by omega)
      have HC2 : Hid (∀ W, Below w.heap.size w W → Calls Tryz.prog 82 #[.agg #[.int .i64 x.u.k, .slice x.u.a x.u.len x.u.cap, .int .i64 x.u.n, .int .i64 x.u.s]] W (OwnTA x.u x.bu W)) := fun W hW => l2ownTerm_z x.u x.bu W (hxl.2.1.below hW) (by omega)
      have HC3 : Hid (∀ W, Below w.heap.size w W → Calls Tryz.prog 82 #[.agg #[.int .i64 x.v.k, .slice x.v.a x.v.len x.v.cap, .int .i64 x.v.n, .int .i64 x.v.s]] W (OwnTA x.v x.bv W)) := fun W hW => l2ownTerm_z x.v x.bv W (hxl.2.2.below hW) (by omega)
      have HXG : Hid (x.good) := hxg
      have HXI : Hid (l[i]? = some x) := hx
      obtain ⟨gr, cr, hvr⟩ : ∃ g c, (Value.slice a l.length cap) = .slice (some ⟨g, 0, none⟩) l.length c := by
        rcases HOL.out.form with ⟨_, h0⟩ | ⟨g, c, h, _⟩
        · rw [h0] at hx
          cases hx
        · exact ⟨g, c, h⟩
      simp only [Value.slice.injEq, true_and] at hvr
      obtain ⟨rfl, rfl⟩ := hvr
      have hrow : ∀ c y, (e12 x.t x.u x.v)[c]? = some y → wr.cell? ⟨gr, i * 12 + c, none⟩ = some y := by
        intro c y hy
        rcases HOL.out.form with ⟨e, _⟩ | ⟨g, c', e, _, hgl, _, hcs⟩
        · cases e
        · simp only [Value.slice.injEq, Option.some.injEq, Addr.mk.injEq, and_true, true_and] at e
          obtain ⟨rfl, _⟩ := e
          have h1 := flatG_cells (l := l) (w := w) (g := gr) (off := 0) (fun j u hu => by rw [Nat.zero_add]; exact hcs j u hu) hx c y hy
          rw [Nat.zero_add] at h1
          exact (HS.out.bel.cell (p := ⟨gr, i * 12 + c, none⟩) hgl).trans h1
      have r0 := hrow 0 _ rfl
      have r1 := hrow 1 _ rfl
      have r2 := hrow 2 _ rfl
      have r3 := hrow 3 _ rfl
      have r4 := hrow 4 _ rfl
      have r5 := hrow 5 _ rfl
      have r6 := hrow 6 _ rfl
      have r7 := hrow 7 _ rfl
      have r8 := hrow 8 _ rfl
      have r9 := hrow 9 _ rfl
      have r10 := hrow 10 _ rfl
      have r11 := hrow 11 _ rfl
      simp only [Nat.add_zero] at r0
      clear hrow hxm hxg hxl hok L1 L2 L3 hx
      obtain ⟨w1, hw1⟩ : ∃ w1, w1 = wr.alloc (.cells #[.int .i64 x.t.k, .slice x.t.a x.t.len x.t.cap, .int .i64 x.t.n, .int .i64 x.t.s, .int .i64 x.u.k, .slice x.u.a x.u.len x.u.cap, .int .i64 x.u.n, .int .i64 x.u.s, .int .i64 x.v.k, .slice x.v.a x.v.len x.v.cap, .int .i64 x.v.n, .int .i64 x.v.s] 36) := ⟨_, rfl⟩
      have HS1 : Hid (OwnSt l (some ⟨gr, 0, none⟩) cap w i (.slice va vn vc) L w1) := by
        rw [hw1]
        obtain ⟨k1, k2, k3, k4, k5, k6, k7, k8⟩ := HS.out
        exact ⟨k1.below (bl_a _), k2, k3, fun y hy => ⟨(k4 y hy).1.below (bl_a _), (k4 y hy).2⟩, k5.below (bl_a _), k6.below (bl_a _), k7.below (bl_a _), bl_trans k8 (bl_a _)⟩
      have HTB : Hid (B12 w1 wr.heap.size x.t x.u x.v) := by
        rw [hw1]
        exact B12.new wr x.t x.u x.v 36
      have HNB : Hid (Option.some wr.heap.size ≠ (Value.slice va vn vc).ownBlock) := fun e => absurd (HS.out.own.2 _ e.symm).2 (Nat.lt_irrefl _)
      have htb : w.heap.size + 2 < wr.heap.size := HS.out.ob.lt
      have htl : wr.heap.size < w1.heap.size := HTB.out.lt
      clear HS
      go_upto_region 6 with fail
      rw [← hw1]
      clear hw1 q0 r0 r1 r2 r3 r4 r5 r6 r7 r8 r9 r10 r11
      generalize wr.heap.size = tb at *
      clear wr
      have HB0 : Hid (Below w1.heap.size w1 w1.drew) := Below.drew (Below.refl _ _)
      have ob0 := HS1.out.ob.c 0 _ rfl
      have hLl : L.length ≤ 1000 := by
        have h1 := congrArg List.length HS1.out.tds
        rw [List.length_map, List.length_map, List.length_take] at h1
        omega
      refine wp_region_held_drew (S := fun w' => Kept (w.heap.size + 2) (Value.slice va vn vc).ownBlock w1 w') (by kernel_rfl) ?_ (fun hHeld => ?_)
      · exact Kept.drew0 _ _ _
      refine take_at (i := 0) 18 (v := ?v1) rfl rfl (by kernel_rfl) (by kernel_rfl) (by kernel_rfl) (fun _ _ _ h => h) (Or.inl ⟨by rfl, ?y1⟩) hHeld ?r1
      case y1 => (intro w' hSw; skip; go_simp; (try with_reducible rfl))
      try simp only [Act.put, List.setIfInBounds_toArray, List.set_cons_zero, List.set_cons_succ]
      refine take_at (i := 2) 20 (v := ?v2) rfl rfl (by kernel_rfl) (by kernel_rfl) (by kernel_rfl) (fun _ _ _ h => h) (Or.inl ⟨by rfl, ?y2⟩) hHeld ?r2
      case y2 => (intro w' hSw; skip; go_simp; (try with_reducible rfl))
      try simp only [Act.put, List.setIfInBounds_toArray, List.set_cons_zero, List.set_cons_succ]
      refine take_at (i := 5) 23 (v := ?v3) rfl rfl (by kernel_rfl) (by kernel_rfl) (by kernel_rfl) (fun _ _ _ h => h) (Or.inl ⟨by rfl, ?y3⟩) hHeld ?r3
      case y3 => (intro w' hSw; skip; go_simp; (try with_reducible rfl))
      try simp only [Act.put, List.setIfInBounds_toArray, List.set_cons_zero, List.set_cons_succ]
      refine take_at (i := 8) 26 (v := ?v4) rfl rfl (by kernel_rfl) (by kernel_rfl) (by kernel_rfl) (fun _ _ _ h => h) (Or.inl ⟨by rfl, ?y4⟩) hHeld ?r4
      case y4 => (intro w' hSw; skip; go_simp; (try with_reducible rfl))
      try simp only [Act.put, List.setIfInBounds_toArray, List.set_cons_zero, List.set_cons_succ]
      refine take_at (i := 3) 21 (v := ?v5) rfl rfl (by kernel_rfl) (by kernel_rfl) (by kernel_rfl) (fun _ _ _ h => h) (Or.inl ⟨by rfl, ?y5⟩) hHeld ?r5
      case y5 => (intro w' hSw; have k0 := (hSw.cell (o := 0) htl (show tb ≠ w.heap.size + 2 by omega) HNB.out).trans (HTB.out.c 0 _ rfl); have k1 := (hSw.cell (o := 1) htl (show tb ≠ w.heap.size + 2 by omega) HNB.out).trans (HTB.out.c 1 _ rfl); have k2 := (hSw.cell (o := 2) htl (show tb ≠ w.heap.size + 2 by omega) HNB.out).trans (HTB.out.c 2 _ rfl); have k3 := (hSw.cell (o := 3) htl (show tb ≠ w.heap.size + 2 by omega) HNB.out).trans (HTB.out.c 3 _ rfl); go_simp; (try with_reducible rfl))
      try simp only [Act.put, List.setIfInBounds_toArray, List.set_cons_zero, List.set_cons_succ]
      refine take_at (i := 6) 24 (v := ?v6) rfl rfl (by kernel_rfl) (by kernel_rfl) (by kernel_rfl) (fun _ _ _ h => h) (Or.inl ⟨by rfl, ?y6⟩) hHeld ?r6
      case y6 => (intro w' hSw; have k4 := (hSw.cell (o := 4) htl (show tb ≠ w.heap.size + 2 by omega) HNB.out).trans (HTB.out.c 4 _ rfl); have k5 := (hSw.cell (o := 5) htl (show tb ≠ w.heap.size + 2 by omega) HNB.out).trans (HTB.out.c 5 _ rfl); have k6 := (hSw.cell (o := 6) htl (show tb ≠ w.heap.size + 2 by omega) HNB.out).trans (HTB.out.c 6 _ rfl); have k7 := (hSw.cell (o := 7) htl (show tb ≠ w.heap.size + 2 by omega) HNB.out).trans (HTB.out.c 7 _ rfl); go_simp; (try with_reducible rfl))
      try simp only [Act.put, List.setIfInBounds_toArray, List.set_cons_zero, List.set_cons_succ]
      refine take_at (i := 9) 27 (v := ?v7) rfl rfl (by kernel_rfl) (by kernel_rfl) (by kernel_rfl) (fun _ _ _ h => h) (Or.inl ⟨by rfl, ?y7⟩) hHeld ?r7
      case y7 => (intro w' hSw; have k8 := (hSw.cell (o := 8) htl (show tb ≠ w.heap.size + 2 by omega) HNB.out).trans (HTB.out.c 8 _ rfl); have k9 := (hSw.cell (o := 9) htl (show tb ≠ w.heap.size + 2 by omega) HNB.out).trans (HTB.out.c 9 _ rfl); have k10 := (hSw.cell (o := 10) htl (show tb ≠ w.heap.size + 2 by omega) HNB.out).trans (HTB.out.c 10 _ rfl); have k11 := (hSw.cell (o := 11) htl (show tb ≠ w.heap.size + 2 by omega) HNB.out).trans (HTB.out.c 11 _ rfl); go_simp; (try with_reducible rfl))
      try simp only [Act.put, List.setIfInBounds_toArray, List.set_cons_zero, List.set_cons_succ]
      refine wpAnyH_ready (rs := [1, 4]) (by kernel_rfl) (by simp) ?_
      refine AllReadyH.cons rfl (fun K hK => ?_) (AllReadyH.cons rfl (fun K hK => ?_) AllReadyH.nil)
      · go_simp
        refine hK.out _ _ ?_ (fun hHeld => ?_)
        · exact (Kept.drew0 _ _ _)
        clear hK K
        try simp only [Act.put, List.setIfInBounds_toArray, List.set_cons_zero, List.set_cons_succ]
        refine wpAnyH_ready (rs := [4]) (by kernel_rfl) (by simp) ?_
        refine AllReadyH.cons rfl (fun K hK => ?_) AllReadyH.nil
        go_simp
        refine (HC1.out _ (bl_trans HS1.out.bel HB0.out)).mono ?_
        rintro e wa ⟨g1, c1, rfl, hT1, hb1⟩
        have HBwa : Hid (Below w1.heap.size w1 wa) := HB0.out.trans (hb1.mono HB0.out.size)
        have HT1wa : Hid (Tz wa w1.heap.size (some ⟨g1, 0, none⟩) x.t.len c1 x.bt) := hT1.mono HB0.out.size
        clear hT1 hb1
        have obwa := (HBwa.out.cell (p := ⟨w.heap.size + 2, 0, none⟩) HS1.out.ob.lt).trans (HS1.out.ob.c 0 _ rfl)
        refine hK.out _ _ ?_ (fun hHeld => ?_)
        · exact (Kept.refl _ _ _).below HBwa.out
        clear hK K
        try simp only [Act.put, List.setIfInBounds_toArray, List.set_cons_zero, List.set_cons_succ]
        refine wpAnyH_ready (rs := [7]) (by kernel_rfl) (by simp) ?_
        refine AllReadyH.cons rfl (fun K hK => ?_) AllReadyH.nil
        go_simp
        refine (HC2.out _ (bl_trans HS1.out.bel HBwa.out)).mono ?_
        rintro e wb ⟨g2, c2, rfl, hT2, hb2⟩
        have HBwb : Hid (Below w1.heap.size w1 wb) := HBwa.out.trans (hb2.mono HBwa.out.size)
        have HT2wb : Hid (Tz wb w1.heap.size (some ⟨g2, 0, none⟩) x.u.len c2 x.bu) := hT2.mono HBwa.out.size
        have HT1wb : Hid (Tz wb w1.heap.size (some ⟨g1, 0, none⟩) x.t.len c1 x.bt) := HT1wa.out.below hb2
        clear hT2 hb2
        have obwb := (HBwb.out.cell (p := ⟨w.heap.size + 2, 0, none⟩) HS1.out.ob.lt).trans (HS1.out.ob.c 0 _ rfl)
        refine hK.out _ _ ?_ (fun hHeld => ?_)
        · exact (Kept.refl _ _ _).below HBwb.out
        clear hK K
        try simp only [Act.put, List.setIfInBounds_toArray, List.set_cons_zero, List.set_cons_succ]
        refine wpAnyH_ready (rs := [10]) (by kernel_rfl) (by simp) ?_
        refine AllReadyH.cons rfl (fun K hK => ?_) AllReadyH.nil
        go_simp
        refine (HC3.out _ (bl_trans HS1.out.bel HBwb.out)).mono ?_
        rintro e wc ⟨g3, c3, rfl, hT3, hb3⟩
        have HBwc : Hid (Below w1.heap.size w1 wc) := HBwb.out.trans (hb3.mono HBwb.out.size)
        have HT3wc : Hid (Tz wc w1.heap.size (some ⟨g3, 0, none⟩) x.v.len c3 x.bv) := hT3.mono HBwb.out.size
        have HT1wc : Hid (Tz wc w1.heap.size (some ⟨g1, 0, none⟩) x.t.len c1 x.bt) := HT1wb.out.below hb3
        have HT2wc : Hid (Tz wc w1.heap.size (some ⟨g2, 0, none⟩) x.u.len c2 x.bu) := HT2wb.out.below hb3
        clear hT3 hb3
        have obwc := (HBwc.out.cell (p := ⟨w.heap.size + 2, 0, none⟩) HS1.out.ob.lt).trans (HS1.out.ob.c 0 _ rfl)
        refine hK.out _ _ ?_ (fun hHeld => ?_)
        · exact (Kept.refl _ _ _).below HBwc.out
        clear hK K
        try simp only [Act.put, List.setIfInBounds_toArray, List.set_cons_zero, List.set_cons_succ]
        refine take_at (i := 11) 29 (v := ?v8) rfl rfl (by kernel_rfl) (by kernel_rfl) (by kernel_rfl) (fun _ _ _ h => h) (Or.inl ⟨by rfl, ?y8⟩) hHeld ?r8
        case y8 => (intro w' hSw; skip; go_simp; (try with_reducible rfl))
        try simp only [Act.put, List.setIfInBounds_toArray, List.set_cons_zero, List.set_cons_succ]
        have HBd : Hid (Below w1.heap.size w1 (wc.alloc (.cells #[.int .i64 x.t.k, .slice (some ⟨g1, 0, none⟩) x.t.len c1, .int .i64 x.t.n, .int .i64 x.t.s, .int .i64 x.u.k, .slice (some ⟨g2, 0, none⟩) x.u.len c2, .int .i64 x.u.n, .int .i64 x.u.s, .int .i64 x.v.k, .slice (some ⟨g3, 0, none⟩) x.v.len c3, .int .i64 x.v.n, .int .i64 x.v.s] 36))) := bl_trans HBwc.out (bl_a _)
        have HT1d : Hid (Tz (wc.alloc (.cells #[.int .i64 x.t.k, .slice (some ⟨g1, 0, none⟩) x.t.len c1, .int .i64 x.t.n, .int .i64 x.t.s, .int .i64 x.u.k, .slice (some ⟨g2, 0, none⟩) x.u.len c2, .int .i64 x.u.n, .int .i64 x.u.s, .int .i64 x.v.k, .slice (some ⟨g3, 0, none⟩) x.v.len c3, .int .i64 x.v.n, .int .i64 x.v.s] 36)) w1.heap.size (some ⟨g1, 0, none⟩) x.t.len c1 x.bt) := HT1wc.out.below (bl_a _)
        have HT2d : Hid (Tz (wc.alloc (.cells #[.int .i64 x.t.k, .slice (some ⟨g1, 0, none⟩) x.t.len c1, .int .i64 x.t.n, .int .i64 x.t.s, .int .i64 x.u.k, .slice (some ⟨g2, 0, none⟩) x.u.len c2, .int .i64 x.u.n, .int .i64 x.u.s, .int .i64 x.v.k, .slice (some ⟨g3, 0, none⟩) x.v.len c3, .int .i64 x.v.n, .int .i64 x.v.s] 36)) w1.heap.size (some ⟨g2, 0, none⟩) x.u.len c2 x.bu) := HT2wc.out.below (bl_a _)
        have HT3d : Hid (Tz (wc.alloc (.cells #[.int .i64 x.t.k, .slice (some ⟨g1, 0, none⟩) x.t.len c1, .int .i64 x.t.n, .int .i64 x.t.s, .int .i64 x.u.k, .slice (some ⟨g2, 0, none⟩) x.u.len c2, .int .i64 x.u.n, .int .i64 x.u.s, .int .i64 x.v.k, .slice (some ⟨g3, 0, none⟩) x.v.len c3, .int .i64 x.v.n, .int .i64 x.v.s] 36)) w1.heap.size (some ⟨g3, 0, none⟩) x.v.len c3 x.bv) := HT3wc.out.below (bl_a _)
        have HOd : Hid (OwnG (wc.alloc (.cells #[.int .i64 x.t.k, .slice (some ⟨g1, 0, none⟩) x.t.len c1, .int .i64 x.t.n, .int .i64 x.t.s, .int .i64 x.u.k, .slice (some ⟨g2, 0, none⟩) x.u.len c2, .int .i64 x.u.n, .int .i64 x.u.s, .int .i64 x.v.k, .slice (some ⟨g3, 0, none⟩) x.v.len c3, .int .i64 x.v.n, .int .i64 x.v.s] 36)) (w.heap.size + 3) (.slice va vn vc) L) := HS1.out.own.below HBd.out
        have HNd : Hid (∀ j u, (flatG [(reText x g1 c1 g2 c2 g3 c3)])[j]? = some u → (wc.alloc (.cells #[.int .i64 x.t.k, .slice (some ⟨g1, 0, none⟩) x.t.len c1, .int .i64 x.t.n, .int .i64 x.t.s, .int .i64 x.u.k, .slice (some ⟨g2, 0, none⟩) x.u.len c2, .int .i64 x.u.n, .int .i64 x.u.s, .int .i64 x.v.k, .slice (some ⟨g3, 0, none⟩) x.v.len c3, .int .i64 x.v.n, .int .i64 x.v.s] 36)).cell? ((⟨wc.heap.size, 0, none⟩ : Addr).add j) = some u) := fun q u hu => World.news_of_block (Go.heap_alloc_new _ _) q u (by simpa [flatG, eG, e12, reText] using hu)
        have hBd : w.heap.size + 3 ≤ (wc.alloc (.cells #[.int .i64 x.t.k, .slice (some ⟨g1, 0, none⟩) x.t.len c1, .int .i64 x.t.n, .int .i64 x.t.s, .int .i64 x.u.k, .slice (some ⟨g2, 0, none⟩) x.u.len c2, .int .i64 x.u.n, .int .i64 x.u.s, .int .i64 x.v.k, .slice (some ⟨g3, 0, none⟩) x.v.len c3, .int .i64 x.v.n, .int .i64 x.v.s] 36)).heap.size := Nat.le_trans (by have := HS1.out.ob.lt; omega) HBd.out.size
        have obd : (wc.alloc (.cells #[.int .i64 x.t.k, .slice (some ⟨g1, 0, none⟩) x.t.len c1, .int .i64 x.t.n, .int .i64 x.t.s, .int .i64 x.u.k, .slice (some ⟨g2, 0, none⟩) x.u.len c2, .int .i64 x.u.n, .int .i64 x.u.s, .int .i64 x.v.k, .slice (some ⟨g3, 0, none⟩) x.v.len c3, .int .i64 x.v.n, .int .i64 x.v.s] 36)).cell? ⟨w.heap.size + 2, 0, none⟩ = some (.slice va vn vc) := (HBd.out.cell (p := ⟨w.heap.size + 2, 0, none⟩) HS1.out.ob.lt).trans (HS1.out.ob.c 0 _ rfl)
        refine wpAnyH_ready (rs := [12]) (by kernel_rfl) (by simp) ?_
        refine AllReadyH.cons rfl (fun K hK => ?_) AllReadyH.nil
        go_simp
        refine hK.out _ _ ?_ (fun hHeld => ?_)
        · exact (Kept.refl _ _ _).below HBd.out
        clear hK K
        try simp only [Act.put, List.setIfInBounds_toArray, List.set_cons_zero, List.set_cons_succ]
        refine wpAnyH_ready (rs := [13]) (by kernel_rfl) (by simp) ?_
        refine AllReadyH.cons rfl (fun K hK => ?_) AllReadyH.nil
        refine stepG rfl (.tmp 19) (.tmp 30) rfl (w.heap.size + 3) (.slice va vn vc) L rfl HOd ⟨wc.heap.size, 0, none⟩ 1 1 [(reText x g1 c1 g2 c2 g3 c3)] rfl rfl HNd (by omega) (L.length + 1) rfl (L ++ [(reText x g1 c1 g2 c2 g3 c3)]) rfl (by omega) hBd ?_
        intro g9 c9 w9 HO9 HG9
        refine hK.out _ _ ?_ (fun hHeld => ?_)
        · exact ((Kept.refl _ _ _).below HBd.out).grown HG9.out
        clear hK K
        try simp only [Act.put, List.setIfInBounds_toArray]
        have ob9 := ((HS1.out.ob.below HBd.out).grown HG9.out (fun e => by have := (HS1.out.own.2 _ e).1; omega)).c 0 _ rfl
        have obf := ((HS1.out.ob.below HBd.out).grown HG9.out (fun e => by have := (HS1.out.own.2 _ e).1; omega)).f 0 (by simp)
        have HF : Hid (OwnSt l (some ⟨gr, 0, none⟩) cap w (i + 1) (.slice (some ⟨g9, 0, none⟩) (L.length + 1) c9) (L ++ [(reText x g1 c1 g2 c2 g3 c3)]) (w9.setCell ⟨w.heap.size + 2, 0, none⟩ (.slice (some ⟨g9, 0, none⟩) (L.length + 1) c9))) := own_step HS1.out HXI.out HXG.out HBd.out HT1d.out HT2d.out HT3d.out HO9.out HG9.out
        refine take_at (i := 14) 32 (v := ?v9) rfl rfl (by kernel_rfl) (by kernel_rfl) (by kernel_rfl) (fun _ _ _ h => h) (Or.inl ⟨by rfl, ?y9⟩) hHeld ?r9
        case y9 => (intro w' hSw; skip; go_simp; (try with_reducible rfl))
        try simp only [Act.put]
        refine wpAnyH_ready (rs := [15]) (by kernel_rfl) (by simp) ?_
        refine AllReadyH.cons rfl (fun K hK => ?_) AllReadyH.nil
        go_simp
        refine hK.out _ _ ?_ (fun hHeld => ?_)
        · exact (((Kept.refl _ _ _).below HBd.out).grown HG9.out).set 0 _
        clear hK K
        try simp only [Act.put, List.setIfInBounds_toArray, List.set_cons_zero, List.set_cons_succ]
        refine wpAnyH_done (by kernel_rfl) ?_ _
        clear hHeld
        clear HC1 HC2 HC3 HS1 HTB HNB HO9 HG9 HOd HNd
        go_wp2_with fail
        go_roundw
        case rel => exact ⟨i + 1, _, L ++ [(reText x g1 c1 g2 c2 g3 c3)], by go_num, HLT.out, HF⟩
        case measure => simp [intOf]; have := HLT.out; omega
      · go_simp
        refine (HC1.out _ (bl_trans HS1.out.bel HB0.out)).mono ?_
        rintro e wa ⟨g1, c1, rfl, hT1, hb1⟩
        have HBwa : Hid (Below w1.heap.size w1 wa) := HB0.out.trans (hb1.mono HB0.out.size)
        have HT1wa : Hid (Tz wa w1.heap.size (some ⟨g1, 0, none⟩) x.t.len c1 x.bt) := hT1.mono HB0.out.size
        clear hT1 hb1
        have obwa := (HBwa.out.cell (p := ⟨w.heap.size + 2, 0, none⟩) HS1.out.ob.lt).trans (HS1.out.ob.c 0 _ rfl)
        refine hK.out _ _ ?_ (fun hHeld => ?_)
        · exact (Kept.refl _ _ _).below HBwa.out
        clear hK K
        try simp only [Act.put, List.setIfInBounds_toArray, List.set_cons_zero, List.set_cons_succ]
        refine wpAnyH_ready (rs := [1, 7]) (by kernel_rfl) (by simp) ?_
        refine AllReadyH.cons rfl (fun K hK => ?_) (AllReadyH.cons rfl (fun K hK => ?_) AllReadyH.nil)
        · go_simp
          refine hK.out _ _ ?_ (fun hHeld => ?_)
          · exact (Kept.refl _ _ _).below HBwa.out
          clear hK K
          try simp only [Act.put, List.setIfInBounds_toArray, List.set_cons_zero, List.set_cons_succ]
          refine wpAnyH_ready (rs := [7]) (by kernel_rfl) (by simp) ?_
          refine AllReadyH.cons rfl (fun K hK => ?_) AllReadyH.nil
          go_simp
          refine (HC2.out _ (bl_trans HS1.out.bel HBwa.out)).mono ?_
          rintro e wb ⟨g2, c2, rfl, hT2, hb2⟩
          have HBwb : Hid (Below w1.heap.size w1 wb) := HBwa.out.trans (hb2.mono HBwa.out.size)
          have HT2wb : Hid (Tz wb w1.heap.size (some ⟨g2, 0, none⟩) x.u.len c2 x.bu) := hT2.mono HBwa.out.size
          have HT1wb : Hid (Tz wb w1.heap.size (some ⟨g1, 0, none⟩) x.t.len c1 x.bt) := HT1wa.out.below hb2
          clear hT2 hb2
          have obwb := (HBwb.out.cell (p := ⟨w.heap.size + 2, 0, none⟩) HS1.out.ob.lt).trans (HS1.out.ob.c 0 _ rfl)
          refine hK.out _ _ ?_ (fun hHeld => ?_)
          · exact (Kept.refl _ _ _).below HBwb.out
          clear hK K
          try simp only [Act.put, List.setIfInBounds_toArray, List.set_cons_zero, List.set_cons_succ]
          refine wpAnyH_ready (rs := [10]) (by kernel_rfl) (by simp) ?_
          refine AllReadyH.cons rfl (fun K hK => ?_) AllReadyH.nil
          go_simp
          refine (HC3.out _ (bl_trans HS1.out.bel HBwb.out)).mono ?_
          rintro e wc ⟨g3, c3, rfl, hT3, hb3⟩
          have HBwc : Hid (Below w1.heap.size w1 wc) := HBwb.out.trans (hb3.mono HBwb.out.size)
          have HT3wc : Hid (Tz wc w1.heap.size (some ⟨g3, 0, none⟩) x.v.len c3 x.bv) := hT3.mono HBwb.out.size
          have HT1wc : Hid (Tz wc w1.heap.size (some ⟨g1, 0, none⟩) x.t.len c1 x.bt) := HT1wb.out.below hb3
          have HT2wc : Hid (Tz wc w1.heap.size (some ⟨g2, 0, none⟩) x.u.len c2 x.bu) := HT2wb.out.below hb3
          clear hT3 hb3
          have obwc := (HBwc.out.cell (p := ⟨w.heap.size + 2, 0, none⟩) HS1.out.ob.lt).trans (HS1.out.ob.c 0 _ rfl)
          refine hK.out _ _ ?_ (fun hHeld => ?_)
          · exact (Kept.refl _ _ _).below HBwc.out
          clear hK K
          try simp only [Act.put, List.setIfInBounds_toArray, List.set_cons_zero, List.set_cons_succ]
          refine take_at (i := 11) 29 (v := ?v10) rfl rfl (by kernel_rfl) (by kernel_rfl) (by kernel_rfl) (fun _ _ _ h => h) (Or.inl ⟨by rfl, ?y10⟩) hHeld ?r10
          case y10 => (intro w' hSw; skip; go_simp; (try with_reducible rfl))
          try simp only [Act.put, List.setIfInBounds_toArray, List.set_cons_zero, List.set_cons_succ]
          have HBd : Hid (Below w1.heap.size w1 (wc.alloc (.cells #[.int .i64 x.t.k, .slice (some ⟨g1, 0, none⟩) x.t.len c1, .int .i64 x.t.n, .int .i64 x.t.s, .int .i64 x.u.k, .slice (some ⟨g2, 0, none⟩) x.u.len c2, .int .i64 x.u.n, .int .i64 x.u.s, .int .i64 x.v.k, .slice (some ⟨g3, 0, none⟩) x.v.len c3, .int .i64 x.v.n, .int .i64 x.v.s] 36))) := bl_trans HBwc.out (bl_a _)
          have HT1d : Hid (Tz (wc.alloc (.cells #[.int .i64 x.t.k, .slice (some ⟨g1, 0, none⟩) x.t.len c1, .int .i64 x.t.n, .int .i64 x.t.s, .int .i64 x.u.k, .slice (some ⟨g2, 0, none⟩) x.u.len c2, .int .i64 x.u.n, .int .i64 x.u.s, .int .i64 x.v.k, .slice (some ⟨g3, 0, none⟩) x.v.len c3, .int .i64 x.v.n, .int .i64 x.v.s] 36)) w1.heap.size (some ⟨g1, 0, none⟩) x.t.len c1 x.bt) := HT1wc.out.below (bl_a _)
          have HT2d : Hid (Tz (wc.alloc (.cells #[.int .i64 x.t.k, .slice (some ⟨g1, 0, none⟩) x.t.len c1, .int .i64 x.t.n, .int .i64 x.t.s, .int .i64 x.u.k, .slice (some ⟨g2, 0, none⟩) x.u.len c2, .int .i64 x.u.n, .int .i64 x.u.s, .int .i64 x.v.k, .slice (some ⟨g3, 0, none⟩) x.v.len c3, .int .i64 x.v.n, .int .i64 x.v.s] 36)) w1.heap.size (some ⟨g2, 0, none⟩) x.u.len c2 x.bu) := HT2wc.out.below (bl_a _)
          have HT3d : Hid (Tz (wc.alloc (.cells #[.int .i64 x.t.k, .slice (some ⟨g1, 0, none⟩) x.t.len c1, .int .i64 x.t.n, .int .i64 x.t.s, .int .i64 x.u.k, .slice (some ⟨g2, 0, none⟩) x.u.len c2, .int .i64 x.u.n, .int .i64 x.u.s, .int .i64 x.v.k, .slice (some ⟨g3, 0, none⟩) x.v.len c3, .int .i64 x.v.n, .int .i64 x.v.s] 36)) w1.heap.size (some ⟨g3, 0, none⟩) x.v.len c3 x.bv) := HT3wc.out.below (bl_a _)
          have HOd : Hid (OwnG (wc.alloc (.cells #[.int .i64 x.t.k, .slice (some ⟨g1, 0, none⟩) x.t.len c1, .int .i64 x.t.n, .int .i64 x.t.s, .int .i64 x.u.k, .slice (some ⟨g2, 0, none⟩) x.u.len c2, .int .i64 x.u.n, .int .i64 x.u.s, .int .i64 x.v.k, .slice (some ⟨g3, 0, none⟩) x.v.len c3, .int .i64 x.v.n, .int .i64 x.v.s] 36)) (w.heap.size + 3) (.slice va vn vc) L) := HS1.out.own.below HBd.out
          have HNd : Hid (∀ j u, (flatG [(reText x g1 c1 g2 c2 g3 c3)])[j]? = some u → (wc.alloc (.cells #[.int .i64 x.t.k, .slice (some ⟨g1, 0, none⟩) x.t.len c1, .int .i64 x.t.n, .int .i64 x.t.s, .int .i64 x.u.k, .slice (some ⟨g2, 0, none⟩) x.u.len c2, .int .i64 x.u.n, .int .i64 x.u.s, .int .i64 x.v.k, .slice (some ⟨g3, 0, none⟩) x.v.len c3, .int .i64 x.v.n, .int .i64 x.v.s] 36)).cell? ((⟨wc.heap.size, 0, none⟩ : Addr).add j) = some u) := fun q u hu => World.news_of_block (Go.heap_alloc_new _ _) q u (by simpa [flatG, eG, e12, reText] using hu)
          have hBd : w.heap.size + 3 ≤ (wc.alloc (.cells #[.int .i64 x.t.k, .slice (some ⟨g1, 0, none⟩) x.t.len c1, .int .i64 x.t.n, .int .i64 x.t.s, .int .i64 x.u.k, .slice (some ⟨g2, 0, none⟩) x.u.len c2, .int .i64 x.u.n, .int .i64 x.u.s, .int .i64 x.v.k, .slice (some ⟨g3, 0, none⟩) x.v.len c3, .int .i64 x.v.n, .int .i64 x.v.s] 36)).heap.size := Nat.le_trans (by have := HS1.out.ob.lt; omega) HBd.out.size
          have obd : (wc.alloc (.cells #[.int .i64 x.t.k, .slice (some ⟨g1, 0, none⟩) x.t.len c1, .int .i64 x.t.n, .int .i64 x.t.s, .int .i64 x.u.k, .slice (some ⟨g2, 0, none⟩) x.u.len c2, .int .i64 x.u.n, .int .i64 x.u.s, .int .i64 x.v.k, .slice (some ⟨g3, 0, none⟩) x.v.len c3, .int .i64 x.v.n, .int .i64 x.v.s] 36)).cell? ⟨w.heap.size + 2, 0, none⟩ = some (.slice va vn vc) := (HBd.out.cell (p := ⟨w.heap.size + 2, 0, none⟩) HS1.out.ob.lt).trans (HS1.out.ob.c 0 _ rfl)
          refine wpAnyH_ready (rs := [12]) (by kernel_rfl) (by simp) ?_
          refine AllReadyH.cons rfl (fun K hK => ?_) AllReadyH.nil
          go_simp
          refine hK.out _ _ ?_ (fun hHeld => ?_)
          · exact (Kept.refl _ _ _).below HBd.out
          clear hK K
          try simp only [Act.put, List.setIfInBounds_toArray, List.set_cons_zero, List.set_cons_succ]
          refine wpAnyH_ready (rs := [13]) (by kernel_rfl) (by simp) ?_
          refine AllReadyH.cons rfl (fun K hK => ?_) AllReadyH.nil
          refine stepG rfl (.tmp 19) (.tmp 30) rfl (w.heap.size + 3) (.slice va vn vc) L rfl HOd ⟨wc.heap.size, 0, none⟩ 1 1 [(reText x g1 c1 g2 c2 g3 c3)] rfl rfl HNd (by omega) (L.length + 1) rfl (L ++ [(reText x g1 c1 g2 c2 g3 c3)]) rfl (by omega) hBd ?_
          intro g9 c9 w9 HO9 HG9
          refine hK.out _ _ ?_ (fun hHeld => ?_)
          · exact ((Kept.refl _ _ _).below HBd.out).grown HG9.out
          clear hK K
          try simp only [Act.put, List.setIfInBounds_toArray]
          have ob9 := ((HS1.out.ob.below HBd.out).grown HG9.out (fun e => by have := (HS1.out.own.2 _ e).1; omega)).c 0 _ rfl
          have obf := ((HS1.out.ob.below HBd.out).grown HG9.out (fun e => by have := (HS1.out.own.2 _ e).1; omega)).f 0 (by simp)
          have HF : Hid (OwnSt l (some ⟨gr, 0, none⟩) cap w (i + 1) (.slice (some ⟨g9, 0, none⟩) (L.length + 1) c9) (L ++ [(reText x g1 c1 g2 c2 g3 c3)]) (w9.setCell ⟨w.heap.size + 2, 0, none⟩ (.slice (some ⟨g9, 0, none⟩) (L.length + 1) c9))) := own_step HS1.out HXI.out HXG.out HBd.out HT1d.out HT2d.out HT3d.out HO9.out HG9.out
          refine take_at (i := 14) 32 (v := ?v11) rfl rfl (by kernel_rfl) (by kernel_rfl) (by kernel_rfl) (fun _ _ _ h => h) (Or.inl ⟨by rfl, ?y11⟩) hHeld ?r11
          case y11 => (intro w' hSw; skip; go_simp; (try with_reducible rfl))
          try simp only [Act.put]
          refine wpAnyH_ready (rs := [15]) (by kernel_rfl) (by simp) ?_
          refine AllReadyH.cons rfl (fun K hK => ?_) AllReadyH.nil
          go_simp
          refine hK.out _ _ ?_ (fun hHeld => ?_)
          · exact (((Kept.refl _ _ _).below HBd.out).grown HG9.out).set 0 _
          clear hK K
          try simp only [Act.put, List.setIfInBounds_toArray, List.set_cons_zero, List.set_cons_succ]
          refine wpAnyH_done (by kernel_rfl) ?_ _
          clear hHeld
          clear HC1 HC2 HC3 HS1 HTB HNB HO9 HG9 HOd HNd
          go_wp2_with fail
          go_roundw
          case rel => exact ⟨i + 1, _, L ++ [(reText x g1 c1 g2 c2 g3 c3)], by go_num, HLT.out, HF⟩
          case measure => simp [intOf]; have := HLT.out; omega
        · go_simp
          refine (HC2.out _ (bl_trans HS1.out.bel HBwa.out)).mono ?_
          rintro e wb ⟨g2, c2, rfl, hT2, hb2⟩
          have HBwb : Hid (Below w1.heap.size w1 wb) := HBwa.out.trans (hb2.mono HBwa.out.size)
          have HT2wb : Hid (Tz wb w1.heap.size (some ⟨g2, 0, none⟩) x.u.len c2 x.bu) := hT2.mono HBwa.out.size
          have HT1wb : Hid (Tz wb w1.heap.size (some ⟨g1, 0, none⟩) x.t.len c1 x.bt) := HT1wa.out.below hb2
          clear hT2 hb2
          have obwb := (HBwb.out.cell (p := ⟨w.heap.size + 2, 0, none⟩) HS1.out.ob.lt).trans (HS1.out.ob.c 0 _ rfl)
          refine hK.out _ _ ?_ (fun hHeld => ?_)
          · exact (Kept.refl _ _ _).below HBwb.out
          clear hK K
          try simp only [Act.put, List.setIfInBounds_toArray, List.set_cons_zero, List.set_cons_succ]
          refine wpAnyH_ready (rs := [1, 10]) (by kernel_rfl) (by simp) ?_
          refine AllReadyH.cons rfl (fun K hK => ?_) (AllReadyH.cons rfl (fun K hK => ?_) AllReadyH.nil)
          · go_simp
            refine hK.out _ _ ?_ (fun hHeld => ?_)
            · exact (Kept.refl _ _ _).below HBwb.out
            clear hK K
            try simp only [Act.put, List.setIfInBounds_toArray, List.set_cons_zero, List.set_cons_succ]
            refine wpAnyH_ready (rs := [10]) (by kernel_rfl) (by simp) ?_
            refine AllReadyH.cons rfl (fun K hK => ?_) AllReadyH.nil
            go_simp
            refine (HC3.out _ (bl_trans HS1.out.bel HBwb.out)).mono ?_
            rintro e wc ⟨g3, c3, rfl, hT3, hb3⟩
            have HBwc : Hid (Below w1.heap.size w1 wc) := HBwb.out.trans (hb3.mono HBwb.out.size)
            have HT3wc : Hid (Tz wc w1.heap.size (some ⟨g3, 0, none⟩) x.v.len c3 x.bv) := hT3.mono HBwb.out.size
            have HT1wc : Hid (Tz wc w1.heap.size (some ⟨g1, 0, none⟩) x.t.len c1 x.bt) := HT1wb.out.below hb3
            have HT2wc : Hid (Tz wc w1.heap.size (some ⟨g2, 0, none⟩) x.u.len c2 x.bu) := HT2wb.out.below hb3
            clear hT3 hb3
            have obwc := (HBwc.out.cell (p := ⟨w.heap.size + 2, 0, none⟩) HS1.out.ob.lt).trans (HS1.out.ob.c 0 _ rfl)
            refine hK.out _ _ ?_ (fun hHeld => ?_)
            · exact (Kept.refl _ _ _).below HBwc.out
            clear hK K
            try simp only [Act.put, List.setIfInBounds_toArray, List.set_cons_zero, List.set_cons_succ]
            refine take_at (i := 11) 29 (v := ?v12) rfl rfl (by kernel_rfl) (by kernel_rfl) (by kernel_rfl) (fun _ _ _ h => h) (Or.inl ⟨by rfl, ?y12⟩) hHeld ?r12
            case y12 => (intro w' hSw; skip; go_simp; (try with_reducible rfl))
            try simp only [Act.put, List.setIfInBounds_toArray, List.set_cons_zero, List.set_cons_succ]
            have HBd : Hid (Below w1.heap.size w1 (wc.alloc (.cells #[.int .i64 x.t.k, .slice (some ⟨g1, 0, none⟩) x.t.len c1, .int .i64 x.t.n, .int .i64 x.t.s, .int .i64 x.u.k, .slice (some ⟨g2, 0, none⟩) x.u.len c2, .int .i64 x.u.n, .int .i64 x.u.s, .int .i64 x.v.k, .slice (some ⟨g3, 0, none⟩) x.v.len c3, .int .i64 x.v.n, .int .i64 x.v.s] 36))) := bl_trans HBwc.out (bl_a _)
            have HT1d : Hid (Tz (wc.alloc (.cells #[.int .i64 x.t.k, .slice (some ⟨g1, 0, none⟩) x.t.len c1, .int .i64 x.t.n, .int .i64 x.t.s, .int .i64 x.u.k, .slice (some ⟨g2, 0, none⟩) x.u.len c2, .int .i64 x.u.n, .int .i64 x.u.s, .int .i64 x.v.k, .slice (some ⟨g3, 0, none⟩) x.v.len c3, .int .i64 x.v.n, .int .i64 x.v.s] 36)) w1.heap.size (some ⟨g1, 0, none⟩) x.t.len c1 x.bt) := HT1wc.out.below (bl_a _)
            have HT2d : Hid (Tz (wc.alloc (.cells #[.int .i64 x.t.k, .slice (some ⟨g1, 0, none⟩) x.t.len c1, .int .i64 x.t.n, .int .i64 x.t.s, .int .i64 x.u.k, .slice (some ⟨g2, 0, none⟩) x.u.len c2, .int .i64 x.u.n, .int .i64 x.u.s, .int .i64 x.v.k, .slice (some ⟨g3, 0, none⟩) x.v.len c3, .int .i64 x.v.n, .int .i64 x.v.s] 36)) w1.heap.size (some ⟨g2, 0, none⟩) x.u.len c2 x.bu) := HT2wc.out.below (bl_a _)
            have HT3d : Hid (Tz (wc.alloc (.cells #[.int .i64 x.t.k, .slice (some ⟨g1, 0, none⟩) x.t.len c1, .int .i64 x.t.n, .int .i64 x.t.s, .int .i64 x.u.k, .slice (some ⟨g2, 0, none⟩) x.u.len c2, .int .i64 x.u.n, .int .i64 x.u.s, .int .i64 x.v.k, .slice (some ⟨g3, 0, none⟩) x.v.len c3, .int .i64 x.v.n, .int .i64 x.v.s] 36)) w1.heap.size (some ⟨g3, 0, none⟩) x.v.len c3 x.bv) := HT3wc.out.below (bl_a _)
            have HOd : Hid (OwnG (wc.alloc (.cells #[.int .i64 x.t.k, .slice (some ⟨g1, 0, none⟩) x.t.len c1, .int .i64 x.t.n, .int .i64 x.t.s, .int .i64 x.u.k, .slice (some ⟨g2, 0, none⟩) x.u.len c2, .int .i64 x.u.n, .int .i64 x.u.s, .int .i64 x.v.k, .slice (some ⟨g3, 0, none⟩) x.v.len c3, .int .i64 x.v.n, .int .i64 x.v.s] 36)) (w.heap.size + 3) (.slice va vn vc) L) := HS1.out.own.below HBd.out
            have HNd : Hid (∀ j u, (flatG [(reText x g1 c1 g2 c2 g3 c3)])[j]? = some u → (wc.alloc (.cells #[.int .i64 x.t.k, .slice (some ⟨g1, 0, none⟩) x.t.len c1, .int .i64 x.t.n, .int .i64 x.t.s, .int .i64 x.u.k, .slice (some ⟨g2, 0, none⟩) x.u.len c2, .int .i64 x.u.n, .int .i64 x.u.s, .int .i64 x.v.k, .slice (some ⟨g3, 0, none⟩) x.v.len c3, .int .i64 x.v.n, .int .i64 x.v.s] 36)).cell? ((⟨wc.heap.size, 0, none⟩ : Addr).add j) = some u) := fun q u hu => World.news_of_block (Go.heap_alloc_new _ _) q u (by simpa [flatG, eG, e12, reText] using hu)
            have hBd : w.heap.size + 3 ≤ (wc.alloc (.cells #[.int .i64 x.t.k, .slice (some ⟨g1, 0, none⟩) x.t.len c1, .int .i64 x.t.n, .int .i64 x.t.s, .int .i64 x.u.k, .slice (some ⟨g2, 0, none⟩) x.u.len c2, .int .i64 x.u.n, .int .i64 x.u.s, .int .i64 x.v.k, .slice (some ⟨g3, 0, none⟩) x.v.len c3, .int .i64 x.v.n, .int .i64 x.v.s] 36)).heap.size := Nat.le_trans (by have := HS1.out.ob.lt; omega) HBd.out.size
            have obd : (wc.alloc (.cells #[.int .i64 x.t.k, .slice (some ⟨g1, 0, none⟩) x.t.len c1, .int .i64 x.t.n, .int .i64 x.t.s, .int .i64 x.u.k, .slice (some ⟨g2, 0, none⟩) x.u.len c2, .int .i64 x.u.n, .int .i64 x.u.s, .int .i64 x.v.k, .slice (some ⟨g3, 0, none⟩) x.v.len c3, .int .i64 x.v.n, .int .i64 x.v.s] 36)).cell? ⟨w.heap.size + 2, 0, none⟩ = some (.slice va vn vc) := (HBd.out.cell (p := ⟨w.heap.size + 2, 0, none⟩) HS1.out.ob.lt).trans (HS1.out.ob.c 0 _ rfl)
            refine wpAnyH_ready (rs := [12]) (by kernel_rfl) (by simp) ?_
            refine AllReadyH.cons rfl (fun K hK => ?_) AllReadyH.nil
            go_simp
            refine hK.out _ _ ?_ (fun hHeld => ?_)
            · exact (Kept.refl _ _ _).below HBd.out
            clear hK K
            try simp only [Act.put, List.setIfInBounds_toArray, List.set_cons_zero, List.set_cons_succ]
            refine wpAnyH_ready (rs := [13]) (by kernel_rfl) (by simp) ?_
            refine AllReadyH.cons rfl (fun K hK => ?_) AllReadyH.nil
            refine stepG rfl (.tmp 19) (.tmp 30) rfl (w.heap.size + 3) (.slice va vn vc) L rfl HOd ⟨wc.heap.size, 0, none⟩ 1 1 [(reText x g1 c1 g2 c2 g3 c3)] rfl rfl HNd (by omega) (L.length + 1) rfl (L ++ [(reText x g1 c1 g2 c2 g3 c3)]) rfl (by omega) hBd ?_
            intro g9 c9 w9 HO9 HG9
            refine hK.out _ _ ?_ (fun hHeld => ?_)
            · exact ((Kept.refl _ _ _).below HBd.out).grown HG9.out
            clear hK K
            try simp only [Act.put, List.setIfInBounds_toArray]
            have ob9 := ((HS1.out.ob.below HBd.out).grown HG9.out (fun e => by have := (HS1.out.own.2 _ e).1; omega)).c 0 _ rfl
            have obf := ((HS1.out.ob.below HBd.out).grown HG9.out (fun e => by have := (HS1.out.own.2 _ e).1; omega)).f 0 (by simp)
            have HF : Hid (OwnSt l (some ⟨gr, 0, none⟩) cap w (i + 1) (.slice (some ⟨g9, 0, none⟩) (L.length + 1) c9) (L ++ [(reText x g1 c1 g2 c2 g3 c3)]) (w9.setCell ⟨w.heap.size + 2, 0, none⟩ (.slice (some ⟨g9, 0, none⟩) (L.length + 1) c9))) := own_step HS1.out HXI.out HXG.out HBd.out HT1d.out HT2d.out HT3d.out HO9.out HG9.out
            refine take_at (i := 14) 32 (v := ?v13) rfl rfl (by kernel_rfl) (by kernel_rfl) (by kernel_rfl) (fun _ _ _ h => h) (Or.inl ⟨by rfl, ?y13⟩) hHeld ?r13
            case y13 => (intro w' hSw; skip; go_simp; (try with_reducible rfl))
            try simp only [Act.put]
            refine wpAnyH_ready (rs := [15]) (by kernel_rfl) (by simp) ?_
            refine AllReadyH.cons rfl (fun K hK => ?_) AllReadyH.nil
            go_simp
            refine hK.out _ _ ?_ (fun hHeld => ?_)
            · exact (((Kept.refl _ _ _).below HBd.out).grown HG9.out).set 0 _
            clear hK K
            try simp only [Act.put, List.setIfInBounds_toArray, List.set_cons_zero, List.set_cons_succ]
            refine wpAnyH_done (by kernel_rfl) ?_ _
            clear hHeld
            clear HC1 HC2 HC3 HS1 HTB HNB HO9 HG9 HOd HNd
            go_wp2_with fail
            go_roundw
            case rel => exact ⟨i + 1, _, L ++ [(reText x g1 c1 g2 c2 g3 c3)], by go_num, HLT.out, HF⟩
            case measure => simp [intOf]; have := HLT.out; omega
          · go_simp
            refine (HC3.out _ (bl_trans HS1.out.bel HBwb.out)).mono ?_
            rintro e wc ⟨g3, c3, rfl, hT3, hb3⟩
            have HBwc : Hid (Below w1.heap.size w1 wc) := HBwb.out.trans (hb3.mono HBwb.out.size)
            have HT3wc : Hid (Tz wc w1.heap.size (some ⟨g3, 0, none⟩) x.v.len c3 x.bv) := hT3.mono HBwb.out.size
            have HT1wc : Hid (Tz wc w1.heap.size (some ⟨g1, 0, none⟩) x.t.len c1 x.bt) := HT1wb.out.below hb3
            have HT2wc : Hid (Tz wc w1.heap.size (some ⟨g2, 0, none⟩) x.u.len c2 x.bu) := HT2wb.out.below hb3
            clear hT3 hb3
            have obwc := (HBwc.out.cell (p := ⟨w.heap.size + 2, 0, none⟩) HS1.out.ob.lt).trans (HS1.out.ob.c 0 _ rfl)
            refine hK.out _ _ ?_ (fun hHeld => ?_)
            · exact (Kept.refl _ _ _).below HBwc.out
            clear hK K
            try simp only [Act.put, List.setIfInBounds_toArray, List.set_cons_zero, List.set_cons_succ]
            refine take_at (i := 11) 29 (v := ?v14) rfl rfl (by kernel_rfl) (by kernel_rfl) (by kernel_rfl) (fun _ _ _ h => h) (Or.inl ⟨by rfl, ?y14⟩) hHeld ?r14
            case y14 => (intro w' hSw; skip; go_simp; (try with_reducible rfl))
            try simp only [Act.put, List.setIfInBounds_toArray, List.set_cons_zero, List.set_cons_succ]
            have HBd : Hid (Below w1.heap.size w1 (wc.alloc (.cells #[.int .i64 x.t.k, .slice (some ⟨g1, 0, none⟩) x.t.len c1, .int .i64 x.t.n, .int .i64 x.t.s, .int .i64 x.u.k, .slice (some ⟨g2, 0, none⟩) x.u.len c2, .int .i64 x.u.n, .int .i64 x.u.s, .int .i64 x.v.k, .slice (some ⟨g3, 0, none⟩) x.v.len c3, .int .i64 x.v.n, .int .i64 x.v.s] 36))) := bl_trans HBwc.out (bl_a _)
            have HT1d : Hid (Tz (wc.alloc (.cells #[.int .i64 x.t.k, .slice (some ⟨g1, 0, none⟩) x.t.len c1, .int .i64 x.t.n, .int .i64 x.t.s, .int .i64 x.u.k, .slice (some ⟨g2, 0, none⟩) x.u.len c2, .int .i64 x.u.n, .int .i64 x.u.s, .int .i64 x.v.k, .slice (some ⟨g3, 0, none⟩) x.v.len c3, .int .i64 x.v.n, .int .i64 x.v.s] 36)) w1.heap.size (some ⟨g1, 0, none⟩) x.t.len c1 x.bt) := HT1wc.out.below (bl_a _)
            have HT2d : Hid (Tz (wc.alloc (.cells #[.int .i64 x.t.k, .slice (some ⟨g1, 0, none⟩) x.t.len c1, .int .i64 x.t.n, .int .i64 x.t.s, .int .i64 x.u.k, .slice (some ⟨g2, 0, none⟩) x.u.len c2, .int .i64 x.u.n, .int .i64 x.u.s, .int .i64 x.v.k, .slice (some ⟨g3, 0, none⟩) x.v.len c3, .int .i64 x.v.n, .int .i64 x.v.s] 36)) w1.heap.size (some ⟨g2, 0, none⟩) x.u.len c2 x.bu) := HT2wc.out.below (bl_a _)
            have HT3d : Hid (Tz (wc.alloc (.cells #[.int .i64 x.t.k, .slice (some ⟨g1, 0, none⟩) x.t.len c1, .int .i64 x.t.n, .int .i64 x.t.s, .int .i64 x.u.k, .slice (some ⟨g2, 0, none⟩) x.u.len c2, .int .i64 x.u.n, .int .i64 x.u.s, .int .i64 x.v.k, .slice (some ⟨g3, 0, none⟩) x.v.len c3, .int .i64 x.v.n, .int .i64 x.v.s] 36)) w1.heap.size (some ⟨g3, 0, none⟩) x.v.len c3 x.bv) := HT3wc.out.below (bl_a _)
            have HOd : Hid (OwnG (wc.alloc (.cells #[.int .i64 x.t.k, .slice (some ⟨g1, 0, none⟩) x.t.len c1, .int .i64 x.t.n, .int .i64 x.t.s, .int .i64 x.u.k, .slice (some ⟨g2, 0, none⟩) x.u.len c2, .int .i64 x.u.n, .int .i64 x.u.s, .int .i64 x.v.k, .slice (some ⟨g3, 0, none⟩) x.v.len c3, .int .i64 x.v.n, .int .i64 x.v.s] 36)) (w.heap.size + 3) (.slice va vn vc) L) := HS1.out.own.below HBd.out
            have HNd : Hid (∀ j u, (flatG [(reText x g1 c1 g2 c2 g3 c3)])[j]? = some u → (wc.alloc (.cells #[.int .i64 x.t.k, .slice (some ⟨g1, 0, none⟩) x.t.len c1, .int .i64 x.t.n, .int .i64 x.t.s, .int .i64 x.u.k, .slice (some ⟨g2, 0, none⟩) x.u.len c2, .int .i64 x.u.n, .int .i64 x.u.s, .int .i64 x.v.k, .slice (some ⟨g3, 0, none⟩) x.v.len c3, .int .i64 x.v.n, .int .i64 x.v.s] 36)).cell? ((⟨wc.heap.size, 0, none⟩ : Addr).add j) = some u) := fun q u hu => World.news_of_block (Go.heap_alloc_new _ _) q u (by simpa [flatG, eG, e12, reText] using hu)
            have hBd : w.heap.size + 3 ≤ (wc.alloc (.cells #[.int .i64 x.t.k, .slice (some ⟨g1, 0, none⟩) x.t.len c1, .int .i64 x.t.n, .int .i64 x.t.s, .int .i64 x.u.k, .slice (some ⟨g2, 0, none⟩) x.u.len c2, .int .i64 x.u.n, .int .i64 x.u.s, .int .i64 x.v.k, .slice (some ⟨g3, 0, none⟩) x.v.len c3, .int .i64 x.v.n, .int .i64 x.v.s] 36)).heap.size := Nat.le_trans (by have := HS1.out.ob.lt; omega) HBd.out.size
            have obd : (wc.alloc (.cells #[.int .i64 x.t.k, .slice (some ⟨g1, 0, none⟩) x.t.len c1, .int .i64 x.t.n, .int .i64 x.t.s, .int .i64 x.u.k, .slice (some ⟨g2, 0, none⟩) x.u.len c2, .int .i64 x.u.n, .int .i64 x.u.s, .int .i64 x.v.k, .slice (some ⟨g3, 0, none⟩) x.v.len c3, .int .i64 x.v.n, .int .i64 x.v.s] 36)).cell? ⟨w.heap.size + 2, 0, none⟩ = some (.slice va vn vc) := (HBd.out.cell (p := ⟨w.heap.size + 2, 0, none⟩) HS1.out.ob.lt).trans (HS1.out.ob.c 0 _ rfl)
            refine wpAnyH_ready (rs := [1, 12]) (by kernel_rfl) (by simp) ?_
            refine AllReadyH.cons rfl (fun K hK => ?_) (AllReadyH.cons rfl (fun K hK => ?_) AllReadyH.nil)
            · go_simp
              refine hK.out _ _ ?_ (fun hHeld => ?_)
              · exact (Kept.refl _ _ _).below HBwc.out
              clear hK K
              try simp only [Act.put, List.setIfInBounds_toArray, List.set_cons_zero, List.set_cons_succ]
              refine wpAnyH_ready (rs := [12]) (by kernel_rfl) (by simp) ?_
              refine AllReadyH.cons rfl (fun K hK => ?_) AllReadyH.nil
              go_simp
              refine hK.out _ _ ?_ (fun hHeld => ?_)
              · exact (Kept.refl _ _ _).below HBd.out
              clear hK K
              try simp only [Act.put, List.setIfInBounds_toArray, List.set_cons_zero, List.set_cons_succ]
              refine wpAnyH_ready (rs := [13]) (by kernel_rfl) (by simp) ?_
              refine AllReadyH.cons rfl (fun K hK => ?_) AllReadyH.nil
              refine stepG rfl (.tmp 19) (.tmp 30) rfl (w.heap.size + 3) (.slice va vn vc) L rfl HOd ⟨wc.heap.size, 0, none⟩ 1 1 [(reText x g1 c1 g2 c2 g3 c3)] rfl rfl HNd (by omega) (L.length + 1) rfl (L ++ [(reText x g1 c1 g2 c2 g3 c3)]) rfl (by omega) hBd ?_
              intro g9 c9 w9 HO9 HG9
              refine hK.out _ _ ?_ (fun hHeld => ?_)
              · exact ((Kept.refl _ _ _).below HBd.out).grown HG9.out
              clear hK K
              try simp only [Act.put, List.setIfInBounds_toArray]
              have ob9 := ((HS1.out.ob.below HBd.out).grown HG9.out (fun e => by have := (HS1.out.own.2 _ e).1; omega)).c 0 _ rfl
              have obf := ((HS1.out.ob.below HBd.out).grown HG9.out (fun e => by have := (HS1.out.own.2 _ e).1; omega)).f 0 (by simp)
              have HF : Hid (OwnSt l (some ⟨gr, 0, none⟩) cap w (i + 1) (.slice (some ⟨g9, 0, none⟩) (L.length + 1) c9) (L ++ [(reText x g1 c1 g2 c2 g3 c3)]) (w9.setCell ⟨w.heap.size + 2, 0, none⟩ (.slice (some ⟨g9, 0, none⟩) (L.length + 1) c9))) := own_step HS1.out HXI.out HXG.out HBd.out HT1d.out HT2d.out HT3d.out HO9.out HG9.out
              refine take_at (i := 14) 32 (v := ?v15) rfl rfl (by kernel_rfl) (by kernel_rfl) (by kernel_rfl) (fun _ _ _ h => h) (Or.inl ⟨by rfl, ?y15⟩) hHeld ?r15
              case y15 => (intro w' hSw; skip; go_simp; (try with_reducible rfl))
              try simp only [Act.put]
              refine wpAnyH_ready (rs := [15]) (by kernel_rfl) (by simp) ?_
              refine AllReadyH.cons rfl (fun K hK => ?_) AllReadyH.nil
              go_simp
              refine hK.out _ _ ?_ (fun hHeld => ?_)
              · exact (((Kept.refl _ _ _).below HBd.out).grown HG9.out).set 0 _
              clear hK K
              try simp only [Act.put, List.setIfInBounds_toArray, List.set_cons_zero, List.set_cons_succ]
              refine wpAnyH_done (by kernel_rfl) ?_ _
              clear hHeld
              clear HC1 HC2 HC3 HS1 HTB HNB HO9 HG9 HOd HNd
              go_wp2_with fail
              go_roundw
              case rel => exact ⟨i + 1, _, L ++ [(reText x g1 c1 g2 c2 g3 c3)], by go_num, HLT.out, HF⟩
              case measure => simp [intOf]; have := HLT.out; omega
            · go_simp
              refine hK.out _ _ ?_ (fun hHeld => ?_)
              · exact (Kept.refl _ _ _).below HBd.out
              clear hK K
              try simp only [Act.put, List.setIfInBounds_toArray, List.set_cons_zero, List.set_cons_succ]
              refine wpAnyH_ready (rs := [1]) (by kernel_rfl) (by simp) ?_
              refine AllReadyH.cons rfl (fun K hK => ?_) AllReadyH.nil
              go_simp
              refine hK.out _ _ ?_ (fun hHeld => ?_)
              · exact (Kept.refl _ _ _).below HBd.out
              clear hK K
              try simp only [Act.put, List.setIfInBounds_toArray, List.set_cons_zero, List.set_cons_succ]
              refine wpAnyH_ready (rs := [13]) (by kernel_rfl) (by simp) ?_
              refine AllReadyH.cons rfl (fun K hK => ?_) AllReadyH.nil
              refine stepG rfl (.tmp 19) (.tmp 30) rfl (w.heap.size + 3) (.slice va vn vc) L rfl HOd ⟨wc.heap.size, 0, none⟩ 1 1 [(reText x g1 c1 g2 c2 g3 c3)] rfl rfl HNd (by omega) (L.length + 1) rfl (L ++ [(reText x g1 c1 g2 c2 g3 c3)]) rfl (by omega) hBd ?_
              intro g9 c9 w9 HO9 HG9
              refine hK.out _ _ ?_ (fun hHeld => ?_)
              · exact ((Kept.refl _ _ _).below HBd.out).grown HG9.out
              clear hK K
              try simp only [Act.put, List.setIfInBounds_toArray]
              have ob9 := ((HS1.out.ob.below HBd.out).grown HG9.out (fun e => by have := (HS1.out.own.2 _ e).1; omega)).c 0 _ rfl
              have obf := ((HS1.out.ob.below HBd.out).grown HG9.out (fun e => by have := (HS1.out.own.2 _ e).1; omega)).f 0 (by simp)
              have HF : Hid (OwnSt l (some ⟨gr, 0, none⟩) cap w (i + 1) (.slice (some ⟨g9, 0, none⟩) (L.length + 1) c9) (L ++ [(reText x g1 c1 g2 c2 g3 c3)]) (w9.setCell ⟨w.heap.size + 2, 0, none⟩ (.slice (some ⟨g9, 0, none⟩) (L.length + 1) c9))) := own_step HS1.out HXI.out HXG.out HBd.out HT1d.out HT2d.out HT3d.out HO9.out HG9.out
              refine take_at (i := 14) 32 (v := ?v16) rfl rfl (by kernel_rfl) (by kernel_rfl) (by kernel_rfl) (fun _ _ _ h => h) (Or.inl ⟨by rfl, ?y16⟩) hHeld ?r16
              case y16 => (intro w' hSw; skip; go_simp; (try with_reducible rfl))
              try simp only [Act.put]
              refine wpAnyH_ready (rs := [15]) (by kernel_rfl) (by simp) ?_
              refine AllReadyH.cons rfl (fun K hK => ?_) AllReadyH.nil
              go_simp
              refine hK.out _ _ ?_ (fun hHeld => ?_)
              · exact (((Kept.refl _ _ _).below HBd.out).grown HG9.out).set 0 _
              clear hK K
              try simp only [Act.put, List.setIfInBounds_toArray, List.set_cons_zero, List.set_cons_succ]
              refine wpAnyH_done (by kernel_rfl) ?_ _
              clear hHeld
              clear HC1 HC2 HC3 HS1 HTB HNB HO9 HG9 HOd HNd
              go_wp2_with fail
              go_roundw
              case rel => exact ⟨i + 1, _, L ++ [(reText x g1 c1 g2 c2 g3 c3)], by go_num, HLT.out, HF⟩
              case measure => simp [intOf]; have := HLT.out; omega
    · have hltz : ¬ (i : Int) < (n : Int) := by omega
      have hin : i = l.length := by
        have := HN.out
        omega
      have b0 := HS.out.ob.c 0 _ rfl
      have b1 := HS.out.rb.c 0 _ rfl
      have bf := HS.out.rb.f 0 (by simp)
      have HF : Hid (OwnAns l w (.returned (.agg #[.slice va vn vc])) (wr.setCell ⟨w.heap.size + 1, 0, none⟩ (.slice va vn vc))) := by
        refine ⟨_, L, rfl, (HS.out.own.past ((Past.refl (w.heap.size + 1) wr).set 0 _) (by omega)).base (by omega), ?_, fun y hy => ⟨(HS.out.lies y hy).1.set b1 (slice_ne _ _ _) 0 _, (HS.out.lies y hy).2⟩, HS.out.nil, HS.out.bel.setCell (p := ⟨w.heap.size + 1, 0, none⟩) (by show w.heap.size ≤ w.heap.size + 1; omega) _⟩
        rw [HS.out.tds, hin, List.take_length]
      clear HS hin
      go_wp2_with fail
      exact bodyPost_ret (v := .agg #[.slice va vn vc]) (by simp [results, Tryz.results53, go_sem, *]) rfl HF.out
end Go.Proofs.YtoclingolfdfeaaGreatDoor
