/- Texts put together: RdQ RdR -/
import Derived.Test.YtoclingolfdfeaaGreatDoorMk14
import Derived.Test.YtoclingolfdfeaaGreatDoorMk02
import Derived.Deep.RegionHeld3
import Derived.Test.YtoclingolfdfeaaGreatDoorMk04
/- RdQ -/
namespace Go.Proofs.YtoclingolfdfeaaGreatDoor
open Go.RowKit Go.Deep
set_option maxRecDepth 100000

theorem Rdr.slice {w0 W : World} {rd next : Nat} {n : Int} {v : Value} {L : List TV} (h : Rdr w0 rd next n W v L) : ∃ a cap, v = .slice a L.length cap ∧ (L = [] ∨ ∃ g, a = some ⟨g, 0, none⟩ ∧ g < W.heap.size ∧ w0.heap.size ≤ g ∧ ∀ j u, (flatK L)[j]? = some u → W.cell? ⟨g, j, none⟩ = some u) := by
  rcases h.own.form with ⟨hv, rfl⟩ | ⟨g, cap, hv, hB, hl, _, hc⟩
  · exact ⟨none, 0, hv, .inl rfl⟩
  · exact ⟨_, cap, hv, .inr ⟨g, rfl, hl, hB, hc⟩⟩
theorem atEnd_any (w0 w : World) (rd next : Nat) (n : Int) (v : Value) (L : List TV) (h : Rdr w0 rd next n w v L) :
    Calls Tryz.prog 69 #[.pointer (some ⟨rd, 0, none⟩)] w fun e w' => e = .returned (.bool (decide (next = L.length))) ∧ ∃ q, w' = w.drewN q := by
  obtain ⟨a, cap, hv, _⟩ := h.slice
  have h0 := h.r0
  have h1 := h.r1
  rw [hv] at h0
  have hm : (Tryz.prog).follows .mixedOrders = true := by kernel_rfl
  clear h hv
  obtain ⟨m, hm2⟩ : ∃ m, m = L.length := ⟨_, rfl⟩
  rw [← hm2] at h0 ⊢
  clear hm2
  have he : ((next : Int) == (m : Int)) = decide (next = m) := by
    rw [Bool.eq_iff_iff]
    simp
    omega
  go_enter Tryz.func69, Tryz.ntmps69
  go_wp2_with fail
  go_quiet (fail)
  all_goals go_wp2_with fail
  all_goals go_ret
  all_goals exact ⟨rfl, _, rfl⟩
/-- What take comes to. -/
def TakeRes (w0 : World) (rd next : Nat) (n : Nat) (v : Value) (L : List TV) (ok : PT → Bool) (w : World) (e : Ending) (w' : World) : Prop :=
  Past rd w w' ∧ ((next = L.length ∧ e = refused 3 n) ∨ ∃ x, L[next]? = some x ∧ ((ok x.pt.2 = true ∧ e = .returned (.agg #[.int .i64 x.kind, .int .i64 x.p, .string x.raw, .int .i64 x.t.t.k, .slice x.t.t.a x.t.t.len x.t.t.cap, .int .i64 x.t.t.n, .int .i64 x.t.t.s]) ∧ Rdr w0 rd (next + 1) n w' v L) ∨ (ok x.pt.2 = false ∧ e = refused 3 x.p)))
theorem Rdr.below {w0 W W' : World} {rd next : Nat} {n : Int} {v : Value} {L : List TV} (h : Rdr w0 rd next n W v L) (hb : Below W.heap.size W W') : Rdr w0 rd next n W' v L :=
  ⟨(hb.cell (p := ⟨rd, 0, none⟩) h.ld).trans h.r0, (hb.cell (p := ⟨rd, 1, none⟩) h.ld).trans h.r1, (hb.cell (p := ⟨rd, 2, none⟩) h.ld).trans h.r2, (hb.frozen (p := ⟨rd, 1, none⟩) h.ld).trans h.f1, Nat.lt_of_lt_of_le h.ld hb.size, h.nd, h.hd, h.own.below hb, fun x hx => (h.txt x hx).below hb, h.sep, h.bel.trans (hb.mono (Nat.le_trans h.hd (Nat.le_of_lt h.ld)))⟩
theorem Rdr.past {w0 W W' : World} {rd next next' : Nat} {n : Int} {v : Value} {L : List TV} (h : Rdr w0 rd next n W v L) (hp : Past rd W W') (c0 : W'.cell? ⟨rd, 0, none⟩ = some v) (c1 : W'.cell? ⟨rd, 1, none⟩ = some (.int .i64 next')) (c2 : W'.cell? ⟨rd, 2, none⟩ = some (.int .i64 n)) (f1 : W'.frozen? ⟨rd, 1, none⟩ = false) : Rdr w0 rd next' n W' v L := by
  have hld := h.ld
  refine ⟨c0, c1, c2, f1, Nat.lt_of_lt_of_le h.ld hp.size, h.nd, h.hd, ?_, fun x hx => ?_, h.sep, h.bel.trans (hp.below h.hd (Nat.le_trans h.hd (Nat.le_of_lt h.ld)))⟩
  · exact h.own.same hp.size fun g hg => hp.block g (h.own.2 g hg).2 (fun e => h.nd (by rw [← e]; exact hg.symm))
  · refine nw_row (h.txt x hx) hp.size (fun b => b = rd) (fun b hb u => ?_) (fun b hb hn => hp.block b hb hn)
    subst hb
    rw [h.r0]
    rcases h.own.form with ⟨rfl, _⟩ | ⟨g', cap', rfl, _⟩ <;> simp
set_option maxHeartbeats 4000000 in
theorem take_some (w0 w : World) (rd next : Nat) (n : Nat) (v : Value) (L : List TV) (f : Nat) (ok : PT → Bool) (hf : Fits f ok) (eg : ∀ args w, (callFunc f args).run Tryz.prog w = .ok (.enter f args) w) (h : Rdr w0 rd next n w v L) (hG : ∀ x ∈ L, x.lies w) (hlt : next < L.length) (hn : next ≤ 1048576) :
    Calls Tryz.prog 98 #[.pointer (some ⟨rd, 0, none⟩), .func (.func f) #[] #[]] w (TakeRes w0 rd next n v L ok w) := by
  obtain ⟨va, vc, hv, hform⟩ := h.slice
  obtain ⟨x, hx⟩ : ∃ x, L[next]? = some x := ⟨L[next], List.getElem?_eq_getElem hlt⟩
  obtain ⟨g, rfl, hgl, hgB, hgc⟩ := hform.resolve_left (fun e => by rw [e] at hlt; simp at hlt)
  have hcx : ∀ c u, (e7 x)[c]? = some u → w.cell? ⟨g, next * 7 + c, none⟩ = some u := fun c u hc => by
    have hc7 : c < 7 := (List.getElem?_eq_some_iff.1 hc).1
    refine hgc _ _ ?_
    rw [flatK_get L next c hlt hc7]
    rw [List.getElem?_eq_getElem hlt] at hx
    rw [Option.some.inj hx]
    exact hc
  have hxl : x.lies w := hG x (List.mem_of_getElem? hx)
  have AE := fun w h => atEnd_any w0 w rd next n v L h
  have hne : decide (next = L.length) = false := decide_eq_false (by omega)
  rw [hne] at AE
  subst hv
  obtain ⟨m, hm⟩ : ∃ m, m = L.length := ⟨_, rfl⟩
  have HM : Hid (m = L.length) := hm
  rw [← hm] at hlt
  have HRd : Hid (∀ W, Below w.heap.size w W → Rdr w0 rd next n W (.slice (some ⟨g, 0, none⟩) L.length vc) L) := fun W hb => h.below hb
  have HGc : Hid (∀ W, Below w.heap.size w W → ∀ c u, (e7 x)[c]? = some u → W.cell? ⟨g, next * 7 + c, none⟩ = some u) := fun W hb c u hc => (hb.cell (p := ⟨g, next * 7 + c, none⟩) hgl).trans (hcx c u hc)
  have HXl : Hid (∀ W, Below w.heap.size w W → x.lies W) := fun W hb => hxl.below hb
  have HX : Hid (L[next]? = some x) := hx
  have HF : Hid (Fits f ok) := hf
  have hrl := h.ld
  clear hgc hcx hxl hx h hG hm hf
  go_enter Tryz.func98, Tryz.ntmps98
  go_wp2_with fail
  have hw1 : Below w.heap.size w (w.alloc (.cells #[.int .i64 0, .int .i64 0, .string ⟨#[]⟩, .int .i64 0, .slice none 0 0, .int .i64 0, .int .i64 0] 98)) := bl_a _
  refine (AE _ (HRd.out _ hw1)).mono ?_
  rintro e w1 ⟨rfl, q, rfl⟩
  have HB1 : Hid (Below w.heap.size w ((w.alloc (.cells #[.int .i64 0, .int .i64 0, .string ⟨#[]⟩, .int .i64 0, .slice none 0 0, .int .i64 0, .int .i64 0] 98)).drewN q)) := below_drewN hw1 q
  have BX : Bx7 ((w.alloc (.cells #[.int .i64 0, .int .i64 0, .string ⟨#[]⟩, .int .i64 0, .slice none 0 0, .int .i64 0, .int .i64 0] 98)).drewN q) w.heap.size (.int .i64 0) (.int .i64 0) (.string ⟨#[]⟩) (.int .i64 0) (.slice none 0 0) (.int .i64 0) (.int .i64 0) := (Bx7.new w _ _ _ _ _ _ _ _).below (below_drewN (Below.refl _ _) q)
  generalize (w.alloc (.cells #[.int .i64 0, .int .i64 0, .string ⟨#[]⟩, .int .i64 0, .slice none 0 0, .int .i64 0, .int .i64 0] 98)).drewN q = wq at *
  clear AE hw1
  have HR0 : Hid (∀ w', Below wq.heap.size wq w' → w'.cell? ⟨rd, 0, none⟩ = some (.slice (some ⟨g, 0, none⟩) m vc)) := fun w' hb => by rw [HM.out]; exact (HRd.out w' (bl_trans HB1.out hb)).r0
  have HR1 : Hid (∀ w', Below wq.heap.size wq w' → w'.cell? ⟨rd, 1, none⟩ = some (.int .i64 next)) := fun w' hb => (HRd.out w' (bl_trans HB1.out hb)).r1
  have HRX : Hid (∀ w', Below wq.heap.size wq w' → w'.cell? ⟨g, next * 7, none⟩ = some (.int .i64 x.kind) ∧ w'.cell? ⟨g, next * 7 + 1, none⟩ = some (.int .i64 x.p) ∧ w'.cell? ⟨g, next * 7 + 2, none⟩ = some (.string x.raw) ∧ w'.cell? ⟨g, next * 7 + 3, none⟩ = some (.int .i64 x.t.t.k) ∧ w'.cell? ⟨g, next * 7 + 4, none⟩ = some (.slice x.t.t.a x.t.t.len x.t.t.cap) ∧ w'.cell? ⟨g, next * 7 + 5, none⟩ = some (.int .i64 x.t.t.n) ∧ w'.cell? ⟨g, next * 7 + 6, none⟩ = some (.int .i64 x.t.t.s)) := fun w' hb => by
    have hc := HGc.out w' (bl_trans HB1.out hb)
    exact ⟨hc 0 _ rfl, hc 1 _ rfl, hc 2 _ rfl, hc 3 _ rfl, hc 4 _ rfl, hc 5 _ rfl, hc 6 _ rfl⟩
  have HST : Hid (Below wq.heap.size wq (wq.drew.alloc (.cells #[.int .i64 x.kind, .int .i64 x.p, .string x.raw, .int .i64 x.t.t.k, .slice x.t.t.a x.t.t.len x.t.t.cap, .int .i64 x.t.t.n, .int .i64 x.t.t.s] 98))) := bl_alloc (Below.drew (Below.refl _ _)) _
  have hlti : (next : Int) < (m : Int) := by omega
  go_wp2_with fail
  refine wp_region_held_drew (S := fun w' => Below wq.heap.size wq w') (by kernel_rfl) ?_ (fun hHeld => ?_)
  · exact Below.drew (Below.refl _ _)
  refine take_at (i := 0) 14 (v := ?v1) rfl rfl (by kernel_rfl) (by kernel_rfl) (by kernel_rfl) (fun _ _ _ h => h) (Or.inl ⟨by rfl, ?y1⟩) hHeld ?r1
  case y1 => (intro w' hSw; skip; go_simp; (try with_reducible rfl))
  try simp only [Act.put, List.setIfInBounds_toArray, List.set_cons_zero, List.set_cons_succ]
  refine take_at (i := 1) 15 (v := ?v2) rfl rfl (by kernel_rfl) (by kernel_rfl) (by kernel_rfl) (fun _ _ _ h => h) (Or.inl ⟨by rfl, ?y2⟩) hHeld ?r2
  case y2 => (intro w' hSw; skip; go_simp; (try with_reducible rfl))
  try simp only [Act.put, List.setIfInBounds_toArray, List.set_cons_zero, List.set_cons_succ]
  refine take_at (i := 2) 16 (v := ?v3) rfl rfl (by kernel_rfl) (by kernel_rfl) (by kernel_rfl) (fun _ _ _ h => h) (Or.inl ⟨by rfl, ?y3⟩) hHeld ?r3
  case y3 => (intro w' hSw; skip; go_simp; (try with_reducible rfl))
  try simp only [Act.put, List.setIfInBounds_toArray, List.set_cons_zero, List.set_cons_succ]
  refine take_at (i := 3) 17 (v := ?v4) rfl rfl (by kernel_rfl) (by kernel_rfl) (by kernel_rfl) (fun _ _ _ h => h) (Or.inl ⟨by rfl, ?y4⟩) hHeld ?r4
  case y4 => (intro w' hSw; have q0 := HR0.out w' hSw; go_simp; (try with_reducible rfl))
  try simp only [Act.put, List.setIfInBounds_toArray, List.set_cons_zero, List.set_cons_succ]
  refine take_at (i := 4) 18 (v := ?v5) rfl rfl (by kernel_rfl) (by kernel_rfl) (by kernel_rfl) (fun _ _ _ h => h) (Or.inl ⟨by rfl, ?y5⟩) hHeld ?r5
  case y5 => (intro w' hSw; skip; go_simp; (try with_reducible rfl))
  try simp only [Act.put, List.setIfInBounds_toArray, List.set_cons_zero, List.set_cons_succ]
  refine take_at (i := 5) 19 (v := ?v6) rfl rfl (by kernel_rfl) (by kernel_rfl) (by kernel_rfl) (fun _ _ _ h => h) (Or.inl ⟨by rfl, ?y6⟩) hHeld ?r6
  case y6 => (intro w' hSw; skip; go_simp; (try with_reducible rfl))
  try simp only [Act.put, List.setIfInBounds_toArray, List.set_cons_zero, List.set_cons_succ]
  refine take_at (i := 6) 20 (v := ?v7) rfl rfl (by kernel_rfl) (by kernel_rfl) (by kernel_rfl) (fun _ _ _ h => h) (Or.inl ⟨by rfl, ?y7⟩) hHeld ?r7
  case y7 => (intro w' hSw; skip; go_simp; (try with_reducible rfl))
  try simp only [Act.put, List.setIfInBounds_toArray, List.set_cons_zero, List.set_cons_succ]
  refine take_at (i := 7) 21 (v := ?v8) rfl rfl (by kernel_rfl) (by kernel_rfl) (by kernel_rfl) (fun _ _ _ h => h) (Or.inl ⟨by rfl, ?y8⟩) hHeld ?r8
  case y8 => (intro w' hSw; have q0 := HR1.out w' hSw; go_simp; (try with_reducible rfl))
  try simp only [Act.put, List.setIfInBounds_toArray, List.set_cons_zero, List.set_cons_succ]
  refine take_at (i := 8) 22 (v := ?v9) rfl rfl (by kernel_rfl) (by kernel_rfl) (by kernel_rfl) (fun _ _ _ h => h) (Or.inl ⟨by rfl, ?y9⟩) hHeld ?r9
  case y9 => (intro w' hSw; skip; go_simp; (try with_reducible rfl))
  try simp only [Act.put, List.setIfInBounds_toArray, List.set_cons_zero, List.set_cons_succ]
  refine take_at (i := 9) 23 (v := ?v10) rfl rfl (by kernel_rfl) (by kernel_rfl) (by kernel_rfl) (fun _ _ _ h => h) (Or.inl ⟨by rfl, ?y10⟩) hHeld ?r10
  case y10 => (intro w' hSw; obtain ⟨q0, q1, q2, q3, q4, q5, q6⟩ := HRX.out w' hSw; go_simp; (try with_reducible rfl))
  try simp only [Act.put, List.setIfInBounds_toArray, List.set_cons_zero, List.set_cons_succ]
  refine wpAnyH_ready (rs := [10]) (by kernel_rfl) (by simp) ?_
  refine AllReadyH.cons rfl (fun K hK => ?_) AllReadyH.nil
  go_simp
  refine hK.out _ _ ?_ (fun hHeld => ?_)
  · exact bl_alloc (Below.drew (Below.refl _ _)) _
  clear hK K
  try simp only [Act.put, List.setIfInBounds_toArray, List.set_cons_zero, List.set_cons_succ]
  refine wpAnyH_ready (rs := [11]) (by kernel_rfl) (by simp) ?_
  refine AllReadyH.cons rfl (fun K hK => ?_) AllReadyH.nil
  go_simp
  refine hK.out _ _ ?_ (fun hHeld => ?_)
  · exact HST.out
  clear hK K
  try simp only [Act.put, List.setIfInBounds_toArray, List.set_cons_zero, List.set_cons_succ]
  refine wpAnyH_done (by kernel_rfl) ?_ _
  have hb5 : Below wq.heap.size wq ((wq.alloc (.cells #[.int .i64 x.kind, .int .i64 x.p, .string x.raw, .int .i64 x.t.t.k, .slice x.t.t.a x.t.t.len x.t.t.cap, .int .i64 x.t.t.n, .int .i64 x.t.t.s] 98)).drew) := Below.drew (bl_a _)
  have BX5 : Bx7 ((wq.alloc (.cells #[.int .i64 x.kind, .int .i64 x.p, .string x.raw, .int .i64 x.t.t.k, .slice x.t.t.a x.t.t.len x.t.t.cap, .int .i64 x.t.t.n, .int .i64 x.t.t.s] 98)).drew) w.heap.size (.int .i64 0) (.int .i64 0) (.string ⟨#[]⟩) (.int .i64 0) (.slice none 0 0) (.int .i64 0) (.int .i64 0) := BX.below hb5
  have BT5 : Bx7 ((wq.alloc (.cells #[.int .i64 x.kind, .int .i64 x.p, .string x.raw, .int .i64 x.t.t.k, .slice x.t.t.a x.t.t.len x.t.t.cap, .int .i64 x.t.t.n, .int .i64 x.t.t.s] 98)).drew) wq.heap.size (.int .i64 x.kind) (.int .i64 x.p) (.string x.raw) (.int .i64 x.t.t.k) (.slice x.t.t.a x.t.t.len x.t.t.cap) (.int .i64 x.t.t.n) (.int .i64 x.t.t.s) := (Bx7.new wq _ _ _ _ _ _ _ _).below (Below.drew (Below.refl _ _))
  have HB5 : Hid (Below w.heap.size w ((wq.alloc (.cells #[.int .i64 x.kind, .int .i64 x.p, .string x.raw, .int .i64 x.t.t.k, .slice x.t.t.a x.t.t.len x.t.t.cap, .int .i64 x.t.t.n, .int .i64 x.t.t.s] 98)).drew)) := bl_trans HB1.out hb5
  have hwq : w.heap.size < wq.heap.size := BX.1.1
  generalize ((wq.alloc (.cells #[.int .i64 x.kind, .int .i64 x.p, .string x.raw, .int .i64 x.t.t.k, .slice x.t.t.a x.t.t.len x.t.t.cap, .int .i64 x.t.t.n, .int .i64 x.t.t.s] 98)).drew) = w5 at *
  clear hHeld HR0 HR1 HRX HST HGc BX hb5 HM hlti
  obtain ⟨qq, hqq⟩ : ∃ qq, qq = ok x.pt.2 := ⟨_, rfl⟩
  have HQ : Hid (qq = ok x.pt.2) := hqq
  have FF := HF.out x w5 (HXl.out _ HB5.out)
  rw [← hqq] at FF
  clear hqq
  have BTa := BT5.1
  obtain ⟨c0, c1, c2, c3, c4, c5, c6, c7⟩ := BTa
  go_wp2_with fail
  refine FF.mono ?_
  rintro e w6 ⟨rfl, hb6⟩
  have BT6 := BT5.below hb6
  have BX6 := BX5.below hb6
  have HB6 : Hid (Below w.heap.size w w6) := bl_trans HB5.out hb6
  have hs6 := hb6.size
  clear c0 c1 c2 c3 c4 c5 c6 c7 BT5 BX5 FF hb6
  obtain ⟨⟨c0, c1, c2, c3, c4, c5, c6, c7⟩, p0, p1, p2, p3, p4, p5, p6⟩ := BT6
  cases qq
  · clear p0 p1 p2 p3 p4 p5 p6 BX6
    go_wp2_with fail
    exact ⟨rfl, Past.of_below HB6.out, .inr ⟨x, HX.out, .inr ⟨HQ.out.symm, rfl⟩⟩⟩
  · have hr6 := HRd.out _ HB6.out
    have HR6 : Hid (Rdr w0 rd next n w6 (.slice (some ⟨g, 0, none⟩) L.length vc) L) := hr6
    have r1 := hr6.r1
    have r2 := hr6.f1
    have hrw : rd < w.heap.size := hrl
    clear hr6
    obtain ⟨⟨d0, d1, d2, d3, d4, d5, d6, d7⟩, s0, s1, s2, s3, s4, s5, s6⟩ := BX6
    go_wp2_with fail
    have hsn := set_same r1 (v := .int .i64 ((next : Int) + 1))
    refine bodyPost_ret (v := .agg #[.int .i64 x.kind, .int .i64 x.p, .string x.raw, .int .i64 x.t.t.k, .slice x.t.t.a x.t.t.len x.t.t.cap, .int .i64 x.t.t.n, .int .i64 x.t.t.s]) (by simp [results, Tryz.results98, go_sem, *]) rfl ?_
    have hP : Past rd w (w6.setCell ⟨rd, 1, none⟩ (.int .i64 ((next : Int) + 1))) := (Past.of_below HB6.out).set 1 _
    have e1 : ∀ o, o ≠ 1 → (w6.setCell ⟨rd, 1, none⟩ (.int .i64 ((next : Int) + 1))).cell? ⟨rd, o, none⟩ = w6.cell? ⟨rd, o, none⟩ := fun o ho => set_other ho
    have hP2 := ((((((hP.set_new (p := ⟨w.heap.size, 0, none⟩) (Nat.le_refl _) (.int .i64 x.kind)).set_new (p := ⟨w.heap.size, 1, none⟩) (Nat.le_refl _) (.int .i64 x.p)).set_new (p := ⟨w.heap.size, 2, none⟩) (Nat.le_refl _) (.string x.raw)).set_new (p := ⟨w.heap.size, 3, none⟩) (Nat.le_refl _) (.int .i64 x.t.t.k)).set_new (p := ⟨w.heap.size, 4, none⟩) (Nat.le_refl _) (.slice x.t.t.a x.t.t.len x.t.t.cap)).set_new (p := ⟨w.heap.size, 5, none⟩) (Nat.le_refl _) (.int .i64 x.t.t.n)).set_new (p := ⟨w.heap.size, 6, none⟩) (Nat.le_refl _) (.int .i64 x.t.t.s)
    refine ⟨hP2, .inr ⟨x, HX.out, .inl ⟨HQ.out.symm, rfl, ?_⟩⟩⟩
    have hfar : ∀ (W : World) (i : Nat) (u : Value), (W.setCell ⟨w.heap.size, i, none⟩ u).heap[rd]? = W.heap[rd]? := fun W i u => Below.heap_setCell _ _ _ _ (by show rd ≠ w.heap.size; omega)
    have hblk : ∀ o, (((((((((w6.setCell ⟨rd, 1, none⟩ (.int .i64 ((next : Int) + 1))).setCell ⟨w.heap.size, 0, none⟩ (.int .i64 x.kind)).setCell ⟨w.heap.size, 1, none⟩ (.int .i64 x.p)).setCell ⟨w.heap.size, 2, none⟩ (.string x.raw)).setCell ⟨w.heap.size, 3, none⟩ (.int .i64 x.t.t.k)).setCell ⟨w.heap.size, 4, none⟩ (.slice x.t.t.a x.t.t.len x.t.t.cap)).setCell ⟨w.heap.size, 5, none⟩ (.int .i64 x.t.t.n)).setCell ⟨w.heap.size, 6, none⟩ (.int .i64 x.t.t.s)).cell? ⟨rd, o, none⟩ = (w6.setCell ⟨rd, 1, none⟩ (.int .i64 ((next : Int) + 1))).cell? ⟨rd, o, none⟩) := fun o => World.cell?_of_block (a := ⟨rd, o, none⟩) (by simp only [hfar])
    refine (HRd.out w (Below.refl _ _)).past hP2 ((hblk 0).trans ((e1 0 (by omega)).trans HR6.out.r0)) ((hblk 1).trans (by push_cast; exact hsn)) ((hblk 2).trans ((e1 2 (by omega)).trans HR6.out.r2)) ?_
    simp only [World.frozen?_setCell]
    exact HR6.out.f1
theorem take_none (w0 w : World) (rd next : Nat) (n : Nat) (v : Value) (L : List TV) (f : Nat) (ok : PT → Bool) (h : Rdr w0 rd next n w v L) (hlt : next = L.length) :
    Calls Tryz.prog 98 #[.pointer (some ⟨rd, 0, none⟩), .func (.func f) #[] #[]] w (TakeRes w0 rd next n v L ok w) := by
  have AE := fun w h => atEnd_any w0 w rd next n v L h
  have hne : decide (next = L.length) = true := decide_eq_true hlt
  rw [hne] at AE
  have HRd : Hid (∀ W, Below w.heap.size w W → Rdr w0 rd next n W v L) := fun W hb => h.below hb
  have HL : Hid (next = L.length) := hlt
  clear h hlt hne
  go_enter Tryz.func98, Tryz.ntmps98
  go_wp2_with fail
  refine (AE _ (HRd.out _ (bl_a _))).mono ?_
  rintro e w1 ⟨rfl, q, rfl⟩
  have HB1 : Hid (Below w.heap.size w ((w.alloc (.cells #[.int .i64 0, .int .i64 0, .string ⟨#[]⟩, .int .i64 0, .slice none 0 0, .int .i64 0, .int .i64 0] 98)).drewN q)) := below_drewN (bl_a _) q
  generalize (w.alloc (.cells #[.int .i64 0, .int .i64 0, .string ⟨#[]⟩, .int .i64 0, .slice none 0 0, .int .i64 0, .int .i64 0] 98)).drewN q = wq at *
  have c2 := (HRd.out wq HB1.out).r2
  clear AE HRd
  go_wp2_with fail
  exact ⟨rfl, Past.of_below HB1.out, .inl ⟨HL.out, rfl⟩⟩
theorem take_any (w0 w : World) (rd next : Nat) (n : Nat) (v : Value) (L : List TV) (f : Nat) (ok : PT → Bool) (hf : Fits f ok) (eg : ∀ args w, (callFunc f args).run Tryz.prog w = .ok (.enter f args) w) (h : Rdr w0 rd next n w v L) (hG : ∀ x ∈ L, x.lies w) (hle : next ≤ L.length) (hn : L.length ≤ 1048576) :
    Calls Tryz.prog 98 #[.pointer (some ⟨rd, 0, none⟩), .func (.func f) #[] #[]] w (TakeRes w0 rd next n v L ok w) := by
  by_cases he : next = L.length
  · exact take_none w0 w rd next n v L f ok h he
  · exact take_some w0 w rd next n v L f ok hf eg h hG (by omega) (by omega)
end Go.Proofs.YtoclingolfdfeaaGreatDoor

/- RdR -/
namespace Go.Proofs.YtoclingolfdfeaaGreatDoor
open Go.RowKit Go.Deep
set_option maxRecDepth 100000

abbrev Toks := List (Nat × PT)
/-- One token that must be so. -/
def takeP (ok : PT → Bool) (l : Toks) (e : Nat) : Except Nat (PT × Toks) :=
  match l with
  | [] => .error e
  | x :: r => if ok x.2 = true then .ok (x.2, r) else .error x.1
/-- One triple. -/
def triP (l : Toks) (e : Nat) : Except Nat ((TD × TD × TD) × Toks) :=
  match takeP okSubj l e with
  | .error a => .error a
  | .ok (s, l1) => match takeP okProp l1 e with
    | .error a => .error a
    | .ok (p, l2) => match takeP okTerm l2 e with
      | .error a => .error a
      | .ok (o, l3) => match takeP okStop l3 e with
        | .error a => .error a
        | .ok (_, l4) => .ok ((s.td, p.td, o.td), l4)
/-- All triples. -/
def readF : Nat → Toks → Nat → Except Nat (List (TD × TD × TD))
  | 0, _, _ => .ok []
  | _ + 1, [], _ => .ok []
  | f + 1, x :: l, e => match triP (x :: l) e with
    | .error a => .error a
    | .ok (t, r) => (readF f r e).map (t :: ·)
theorem takeP_at {L : List TV} {next : Nat} {x : TV} (hx : L[next]? = some x) (ok : PT → Bool) (e : Nat) : takeP ok ((L.map TV.pt).drop next) e = if ok x.pt.2 = true then .ok (x.pt.2, (L.map TV.pt).drop (next + 1)) else .error x.p := by
  obtain ⟨hlt, rfl⟩ := List.getElem?_eq_some_iff.1 hx
  rw [List.drop_eq_getElem_cons (by simpa using hlt)]
  simp only [takeP, List.getElem_map]
  rfl
theorem takeP_end {L : List TV} {next : Nat} (h : next = L.length) (ok : PT → Bool) (e : Nat) : takeP ok ((L.map TV.pt).drop next) e = .error e := by
  rw [List.drop_of_length_le (by simp [h])]
  rfl
theorem Bx7.past {w w' : World} {r b : Nat} {v0 v1 v2 v3 v4 v5 v6 : Value} (h : Bx7 w b v0 v1 v2 v3 v4 v5 v6) (hp : Past r w w') (hb : b ≠ r) : Bx7 w' b v0 v1 v2 v3 v4 v5 v6 := by
  obtain ⟨⟨hl, h0, h1, h2, h3, h4, h5, h6⟩, f0, f1, f2, f3, f4, f5, f6⟩ := h
  refine ⟨⟨Nat.lt_of_lt_of_le hl hp.size, (hp.cell (p := ⟨b, 0, none⟩) hl hb).trans h0, (hp.cell (p := ⟨b, 1, none⟩) hl hb).trans h1, (hp.cell (p := ⟨b, 2, none⟩) hl hb).trans h2, (hp.cell (p := ⟨b, 3, none⟩) hl hb).trans h3, (hp.cell (p := ⟨b, 4, none⟩) hl hb).trans h4, (hp.cell (p := ⟨b, 5, none⟩) hl hb).trans h5, (hp.cell (p := ⟨b, 6, none⟩) hl hb).trans h6⟩,
    (hp.frozen (p := ⟨b, 0, none⟩) hl hb).trans f0, (hp.frozen (p := ⟨b, 1, none⟩) hl hb).trans f1, (hp.frozen (p := ⟨b, 2, none⟩) hl hb).trans f2, (hp.frozen (p := ⟨b, 3, none⟩) hl hb).trans f3, (hp.frozen (p := ⟨b, 4, none⟩) hl hb).trans f4, (hp.frozen (p := ⟨b, 5, none⟩) hl hb).trans f5, (hp.frozen (p := ⟨b, 6, none⟩) hl hb).trans f6⟩
def TVok (x : TV) : Prop := x.t.t.fits ∧ x.kind ≤ 3 ∧ x.p ≤ 1048576
theorem Rdr.lies {w0 W : World} {rd next : Nat} {n : Int} {v : Value} {L : List TV} (h : Rdr w0 rd next n W v L) (hK : ∀ x ∈ L, TVok x) : ∀ x ∈ L, x.lies W := fun x hx => ⟨(hK x hx).1, (h.txt x hx).bs, (hK x hx).2⟩
/-- A box of twelve that may be written. -/
def Bx12 (w : World) (b : Nat) : Prop := b < w.heap.size ∧ ∀ i, i < 12 → (∃ u, w.cell? ⟨b, i, none⟩ = some u) ∧ w.frozen? ⟨b, i, none⟩ = false
theorem Bx12.new (w : World) (t : TypeId) : Bx12 (w.alloc (.cells #[.int .i64 0, .slice none 0 0, .int .i64 0, .int .i64 0, .int .i64 0, .slice none 0 0, .int .i64 0, .int .i64 0, .int .i64 0, .slice none 0 0, .int .i64 0, .int .i64 0] t)) w.heap.size := by
  refine ⟨by simp, fun i hi => ?_⟩
  have hc : i = 0 ∨ i = 1 ∨ i = 2 ∨ i = 3 ∨ i = 4 ∨ i = 5 ∨ i = 6 ∨ i = 7 ∨ i = 8 ∨ i = 9 ∨ i = 10 ∨ i = 11 := by omega
  rcases hc with rfl | rfl | rfl | rfl | rfl | rfl | rfl | rfl | rfl | rfl | rfl | rfl <;> exact ⟨⟨_, by simp [go_sem]; rfl⟩, by simp [go_sem]⟩
theorem Bx12.past {w w' : World} {r b : Nat} (h : Bx12 w b) (hp : Past r w w') (hb : b ≠ r) : Bx12 w' b := by
  refine ⟨Nat.lt_of_lt_of_le h.1 hp.size, fun i hi => ?_⟩
  obtain ⟨⟨u, hu⟩, hf⟩ := h.2 i hi
  exact ⟨⟨u, (hp.cell (p := ⟨b, i, none⟩) h.1 hb).trans hu⟩, (hp.frozen (p := ⟨b, i, none⟩) h.1 hb).trans hf⟩
theorem Past.but_new {r : Nat} {w w' w'' : World} (h : Past r w w') (hb : But w.heap.size w' w'') : Past r w w'' :=
  ⟨hb.os.trans h.os, hb.tape.trans h.tape, hb.output.trans h.output, by rw [hb.size]; exact h.size, fun b h1 h2 => (hb.block b (by omega)).trans (h.block b h1 h2)⟩
/-- What triple comes to. -/
def TriRes (w0 : World) (rd next : Nat) (n : Nat) (v : Value) (L : List TV) (w : World) (e : Ending) (w' : World) : Prop :=
  Past rd w w' ∧ ((∃ a : Nat, triP ((L.map TV.pt).drop next) n = .error a ∧ e = refused 3 a) ∨ ∃ x y z, L[next]? = some x ∧ L[next + 1]? = some y ∧ L[next + 1 + 1]? = some z ∧ okSubj x.pt.2 = true ∧ okProp y.pt.2 = true ∧ okTerm z.pt.2 = true ∧ next + 4 ≤ L.length ∧
    triP ((L.map TV.pt).drop next) n = .ok ((x.t.td, y.t.td, z.t.td), (L.map TV.pt).drop (next + 4)) ∧ e = .returned (.agg #[.int .i64 x.t.t.k, .slice x.t.t.a x.t.t.len x.t.t.cap, .int .i64 x.t.t.n, .int .i64 x.t.t.s, .int .i64 y.t.t.k, .slice y.t.t.a y.t.t.len y.t.t.cap, .int .i64 y.t.t.n, .int .i64 y.t.t.s, .int .i64 z.t.t.k, .slice z.t.t.a z.t.t.len z.t.t.cap, .int .i64 z.t.t.n, .int .i64 z.t.t.s]) ∧ Rdr w0 rd (next + 4) n w' v L)
set_option maxHeartbeats 4000000 in
theorem triple_any (w0 w : World) (rd next : Nat) (n : Nat) (v : Value) (L : List TV) (h : Rdr w0 rd next n w v L) (hK : ∀ x ∈ L, TVok x) (hle : next ≤ L.length) (hn : L.length ≤ 1048576) :
    Calls Tryz.prog 70 #[.pointer (some ⟨rd, 0, none⟩)] w (TriRes w0 rd next n v L w) := by
  have HK : Hid (∀ x ∈ L, TVok x) := hK
  have hrd := h.ld
  have HR0 : Hid (∀ W, Below w.heap.size w W → Rdr w0 rd next n W v L) := fun W hb => h.below hb
  have HRi : Hid (Rdr w0 rd next n w v L) := h
  clear hK h
  have B12 := Bx12.new w 36
  go_enter Tryz.func70, Tryz.ntmps70
  go_wp2_with fail
  have R1 := HR0.out _ (bl_a (.cells #[.int .i64 0, .slice none 0 0, .int .i64 0, .int .i64 0, .int .i64 0, .slice none 0 0, .int .i64 0, .int .i64 0, .int .i64 0, .slice none 0 0, .int .i64 0, .int .i64 0] 36))
  have HP1 : Hid (Past rd w (w.alloc (.cells #[.int .i64 0, .slice none 0 0, .int .i64 0, .int .i64 0, .int .i64 0, .slice none 0 0, .int .i64 0, .int .i64 0, .int .i64 0, .slice none 0 0, .int .i64 0, .int .i64 0] 36))) := Past.of_below (bl_a _)
  refine (take_any w0 _ rd next n v L 99 okSubj fitsSubj (enters_of Tryz.func99 (by kernel_rfl) rfl) R1 (R1.lies HK.out) hle hn).mono ?_
  generalize w.alloc (.cells #[.int .i64 0, .slice none 0 0, .int .i64 0, .int .i64 0, .int .i64 0, .slice none 0 0, .int .i64 0, .int .i64 0, .int .i64 0, .slice none 0 0, .int .i64 0, .int .i64 0] 36) = u1 at *
  clear R1 HR0
  rintro e w1 ⟨hp1, hres⟩
  have HP2 : Hid (Past rd w w1) := HP1.out.trans hp1
  have B12 := B12.past hp1 (by omega)
  clear hp1 HP1
  rcases hres with ⟨he, rfl⟩ | ⟨x, hx, ⟨hk, rfl, hr⟩ | ⟨hk, rfl⟩⟩
  · have HT : Hid (triP ((L.map TV.pt).drop next) n = .error n) := by show _ = _; rw [triP, takeP_end he]
    unfold refused
    clear he hle hn B12
    go_wp2_with fail
    exact ⟨rfl, HP2.out, .inl ⟨n, HT.out, rfl⟩⟩
  rotate_left
  · have HT : Hid (triP ((L.map TV.pt).drop next) n = .error x.p) := by show _ = _; rw [triP, takeP_at hx, if_neg (by rw [hk]; decide)]
    unfold refused
    clear hx hk hle hn B12
    go_wp2_with fail
    exact ⟨rfl, HP2.out, .inl ⟨x.p, HT.out, rfl⟩⟩
  have HX : Hid (L[next]? = some x ∧ okSubj x.pt.2 = true) := ⟨hx, hk⟩
  have hl1 : next + 1 ≤ L.length := (List.getElem?_eq_some_iff.1 hx).1
  clear hx hk hle
  have BXx := Bx7.new w1 (.int .i64 x.kind) (.int .i64 x.p) (.string x.raw) (.int .i64 x.t.t.k) (.slice x.t.t.a x.t.t.len x.t.t.cap) (.int .i64 x.t.t.n) (.int .i64 x.t.t.s) 98
  have R2 := hr.below (bl_a (.cells #[.int .i64 x.kind, .int .i64 x.p, .string x.raw, .int .i64 x.t.t.k, .slice x.t.t.a x.t.t.len x.t.t.cap, .int .i64 x.t.t.n, .int .i64 x.t.t.s] 98))
  have hpa : Past rd w1 (w1.alloc (.cells #[.int .i64 x.kind, .int .i64 x.p, .string x.raw, .int .i64 x.t.t.k, .slice x.t.t.a x.t.t.len x.t.t.cap, .int .i64 x.t.t.n, .int .i64 x.t.t.s] 98)) := Past.of_below (bl_a _)
  have HP3 : Hid (Past rd w (w1.alloc (.cells #[.int .i64 x.kind, .int .i64 x.p, .string x.raw, .int .i64 x.t.t.k, .slice x.t.t.a x.t.t.len x.t.t.cap, .int .i64 x.t.t.n, .int .i64 x.t.t.s] 98))) := HP2.out.trans hpa
  have B12 := B12.past (r := rd) hpa (by omega)
  have hsw1 : w.heap.size ≤ w1.heap.size := HP2.out.size
  clear hpa
  clear hr HP2
  go_wp2_with fail
  generalize w1.alloc (.cells #[.int .i64 x.kind, .int .i64 x.p, .string x.raw, .int .i64 x.t.t.k, .slice x.t.t.a x.t.t.len x.t.t.cap, .int .i64 x.t.t.n, .int .i64 x.t.t.s] 98) = u2 at *
  refine (take_any w0 _ rd (next + 1) n v L 100 okProp fitsProp (enters_of Tryz.func100 (by kernel_rfl) rfl) R2 (R2.lies HK.out) hl1 hn).mono ?_
  clear R2
  rintro e w2 ⟨hp2, hres⟩
  have HP4 : Hid (Past rd w w2) := HP3.out.trans hp2
  have B12 := B12.past hp2 (by omega)
  have BXx := BXx.past hp2 (by omega)
  clear hp2 HP3
  rcases hres with ⟨he, rfl⟩ | ⟨y, hy, ⟨hk, rfl, hr⟩ | ⟨hk, rfl⟩⟩
  · have HT : Hid (triP ((L.map TV.pt).drop next) n = .error n) := by show _ = _; rw [triP, takeP_at HX.out.1, if_pos HX.out.2]; simp only; rw [takeP_end he]
    unfold refused
    clear he hn B12 BXx
    go_wp2_with fail
    exact ⟨rfl, HP4.out, .inl ⟨n, HT.out, rfl⟩⟩
  rotate_left
  · have HT : Hid (triP ((L.map TV.pt).drop next) n = .error y.p) := by show _ = _; rw [triP, takeP_at HX.out.1, if_pos HX.out.2]; simp only; rw [takeP_at hy, if_neg (by rw [hk]; decide)]
    unfold refused
    clear hy hk hn B12 BXx
    go_wp2_with fail
    exact ⟨rfl, HP4.out, .inl ⟨y.p, HT.out, rfl⟩⟩
  have HY : Hid (L[next + 1]? = some y ∧ okProp y.pt.2 = true) := ⟨hy, hk⟩
  have hl2 : next + 1 + 1 ≤ L.length := (List.getElem?_eq_some_iff.1 hy).1
  clear hy hk hl1
  have BXy := Bx7.new w2 (.int .i64 y.kind) (.int .i64 y.p) (.string y.raw) (.int .i64 y.t.t.k) (.slice y.t.t.a y.t.t.len y.t.t.cap) (.int .i64 y.t.t.n) (.int .i64 y.t.t.s) 98
  have R3 := hr.below (bl_a (.cells #[.int .i64 y.kind, .int .i64 y.p, .string y.raw, .int .i64 y.t.t.k, .slice y.t.t.a y.t.t.len y.t.t.cap, .int .i64 y.t.t.n, .int .i64 y.t.t.s] 98))
  have hpa : Past rd w2 (w2.alloc (.cells #[.int .i64 y.kind, .int .i64 y.p, .string y.raw, .int .i64 y.t.t.k, .slice y.t.t.a y.t.t.len y.t.t.cap, .int .i64 y.t.t.n, .int .i64 y.t.t.s] 98)) := Past.of_below (bl_a _)
  have HP5 : Hid (Past rd w (w2.alloc (.cells #[.int .i64 y.kind, .int .i64 y.p, .string y.raw, .int .i64 y.t.t.k, .slice y.t.t.a y.t.t.len y.t.t.cap, .int .i64 y.t.t.n, .int .i64 y.t.t.s] 98))) := HP4.out.trans hpa
  have B12 := B12.past (r := rd) hpa (by omega)
  have hsw2 : w.heap.size ≤ w2.heap.size := HP4.out.size
  clear hr HP4
  go_wp2_with fail
  generalize w2.alloc (.cells #[.int .i64 y.kind, .int .i64 y.p, .string y.raw, .int .i64 y.t.t.k, .slice y.t.t.a y.t.t.len y.t.t.cap, .int .i64 y.t.t.n, .int .i64 y.t.t.s] 98) = u3 at *
  have BXx := BXx.past (r := rd) hpa (by omega)
  clear hpa
  refine (take_any w0 _ rd (next + 1 + 1) n v L 101 okTerm fitsTerm (enters_of Tryz.func101 (by kernel_rfl) rfl) R3 (R3.lies HK.out) hl2 hn).mono ?_
  clear R3
  rintro e w3 ⟨hp3, hres⟩
  have HP6 : Hid (Past rd w w3) := HP5.out.trans hp3
  have B12 := B12.past hp3 (by omega)
  have BXx := BXx.past hp3 (by omega)
  have BXy := BXy.past hp3 (by omega)
  clear hp3 HP5
  rcases hres with ⟨he, rfl⟩ | ⟨z, hz, ⟨hk, rfl, hr⟩ | ⟨hk, rfl⟩⟩
  · have HT : Hid (triP ((L.map TV.pt).drop next) n = .error n) := by show _ = _; rw [triP, takeP_at HX.out.1, if_pos HX.out.2]; simp only; rw [takeP_at HY.out.1, if_pos HY.out.2]; simp only; rw [takeP_end he]
    unfold refused
    clear he hn B12 BXx BXy
    go_wp2_with fail
    exact ⟨rfl, HP6.out, .inl ⟨n, HT.out, rfl⟩⟩
  rotate_left
  · have HT : Hid (triP ((L.map TV.pt).drop next) n = .error z.p) := by show _ = _; rw [triP, takeP_at HX.out.1, if_pos HX.out.2]; simp only; rw [takeP_at HY.out.1, if_pos HY.out.2]; simp only; rw [takeP_at hz, if_neg (by rw [hk]; decide)]
    unfold refused
    clear hz hk hn B12 BXx BXy
    go_wp2_with fail
    exact ⟨rfl, HP6.out, .inl ⟨z.p, HT.out, rfl⟩⟩
  have HZ : Hid (L[next + 1 + 1]? = some z ∧ okTerm z.pt.2 = true) := ⟨hz, hk⟩
  have hl3 : next + 1 + 1 + 1 ≤ L.length := (List.getElem?_eq_some_iff.1 hz).1
  clear hz hk hl2
  have BXz := Bx7.new w3 (.int .i64 z.kind) (.int .i64 z.p) (.string z.raw) (.int .i64 z.t.t.k) (.slice z.t.t.a z.t.t.len z.t.t.cap) (.int .i64 z.t.t.n) (.int .i64 z.t.t.s) 98
  have R4 := hr.below (bl_a (.cells #[.int .i64 z.kind, .int .i64 z.p, .string z.raw, .int .i64 z.t.t.k, .slice z.t.t.a z.t.t.len z.t.t.cap, .int .i64 z.t.t.n, .int .i64 z.t.t.s] 98))
  have hpa : Past rd w3 (w3.alloc (.cells #[.int .i64 z.kind, .int .i64 z.p, .string z.raw, .int .i64 z.t.t.k, .slice z.t.t.a z.t.t.len z.t.t.cap, .int .i64 z.t.t.n, .int .i64 z.t.t.s] 98)) := Past.of_below (bl_a _)
  have HP7 : Hid (Past rd w (w3.alloc (.cells #[.int .i64 z.kind, .int .i64 z.p, .string z.raw, .int .i64 z.t.t.k, .slice z.t.t.a z.t.t.len z.t.t.cap, .int .i64 z.t.t.n, .int .i64 z.t.t.s] 98))) := HP6.out.trans hpa
  have B12 := B12.past (r := rd) hpa (by omega)
  have hsw3 : w.heap.size ≤ w3.heap.size := HP6.out.size
  clear hr HP6
  go_wp2_with fail
  generalize w3.alloc (.cells #[.int .i64 z.kind, .int .i64 z.p, .string z.raw, .int .i64 z.t.t.k, .slice z.t.t.a z.t.t.len z.t.t.cap, .int .i64 z.t.t.n, .int .i64 z.t.t.s] 98) = u4 at *
  have BXx := BXx.past (r := rd) hpa (by omega)
  have BXy := BXy.past (r := rd) hpa (by omega)
  clear hpa
  refine (take_any w0 _ rd (next + 1 + 1 + 1) n v L 102 okStop fitsStop (enters_of Tryz.func102 (by kernel_rfl) rfl) R4 (R4.lies HK.out) hl3 hn).mono ?_
  clear R4
  rintro e w4 ⟨hp4, hres⟩
  have HP8 : Hid (Past rd w w4) := HP7.out.trans hp4
  have B12 := B12.past hp4 (by omega)
  have BXx := BXx.past hp4 (by omega)
  have BXy := BXy.past hp4 (by omega)
  have BXz := BXz.past hp4 (by omega)
  clear hp4 HP7
  rcases hres with ⟨he, rfl⟩ | ⟨d, hd, ⟨hk, rfl, hr⟩ | ⟨hk, rfl⟩⟩
  · have HT : Hid (triP ((L.map TV.pt).drop next) n = .error n) := by show _ = _; rw [triP, takeP_at HX.out.1, if_pos HX.out.2]; simp only; rw [takeP_at HY.out.1, if_pos HY.out.2]; simp only; rw [takeP_at HZ.out.1, if_pos HZ.out.2]; simp only; rw [takeP_end he]
    unfold refused
    clear he hn B12 BXx BXy BXz
    go_wp2_with fail
    exact ⟨rfl, HP8.out, .inl ⟨n, HT.out, rfl⟩⟩
  rotate_left
  · have HT : Hid (triP ((L.map TV.pt).drop next) n = .error d.p) := by show _ = _; rw [triP, takeP_at HX.out.1, if_pos HX.out.2]; simp only; rw [takeP_at HY.out.1, if_pos HY.out.2]; simp only; rw [takeP_at HZ.out.1, if_pos HZ.out.2]; simp only; rw [takeP_at hd, if_neg (by rw [hk]; decide)]
    unfold refused
    clear hd hk hn B12 BXx BXy BXz
    go_wp2_with fail
    exact ⟨rfl, HP8.out, .inl ⟨d.p, HT.out, rfl⟩⟩
  have HT : Hid (triP ((L.map TV.pt).drop next) n = .ok ((x.t.td, y.t.td, z.t.td), (L.map TV.pt).drop (next + 4))) := by show _ = _; rw [triP, takeP_at HX.out.1, if_pos HX.out.2]; simp only; rw [takeP_at HY.out.1, if_pos HY.out.2]; simp only; rw [takeP_at HZ.out.1, if_pos HZ.out.2]; simp only; rw [takeP_at hd, if_pos hk]; rfl
  have hl4 : next + 4 ≤ L.length := (List.getElem?_eq_some_iff.1 hd).1
  have HR : Hid (Rdr w0 rd (next + 4) n w4 v L) := hr
  obtain ⟨⟨x0, x1, x2, x3, x4, x5, x6, x7⟩, _⟩ := BXx
  obtain ⟨⟨y0, y1, y2, y3, y4, y5, y6, y7⟩, _⟩ := BXy
  obtain ⟨⟨z0, z1, z2, z3, z4, z5, z6, z7⟩, _⟩ := BXz
  obtain ⟨⟨o0, p0⟩, q0⟩ := B12.2 0 (by omega)
  obtain ⟨⟨o1, p1⟩, q1⟩ := B12.2 1 (by omega)
  obtain ⟨⟨o2, p2⟩, q2⟩ := B12.2 2 (by omega)
  obtain ⟨⟨o3, p3⟩, q3⟩ := B12.2 3 (by omega)
  obtain ⟨⟨o4, p4⟩, q4⟩ := B12.2 4 (by omega)
  obtain ⟨⟨o5, p5⟩, q5⟩ := B12.2 5 (by omega)
  obtain ⟨⟨o6, p6⟩, q6⟩ := B12.2 6 (by omega)
  obtain ⟨⟨o7, p7⟩, q7⟩ := B12.2 7 (by omega)
  obtain ⟨⟨o8, p8⟩, q8⟩ := B12.2 8 (by omega)
  obtain ⟨⟨o9, p9⟩, q9⟩ := B12.2 9 (by omega)
  obtain ⟨⟨o10, p10⟩, q10⟩ := B12.2 10 (by omega)
  obtain ⟨⟨o11, p11⟩, q11⟩ := B12.2 11 (by omega)
  clear hr hd hk hn B12 hl3
  go_wp2_with fail
  refine bodyPost_ret (v := .agg #[.int .i64 x.t.t.k, .slice x.t.t.a x.t.t.len x.t.t.cap, .int .i64 x.t.t.n, .int .i64 x.t.t.s, .int .i64 y.t.t.k, .slice y.t.t.a y.t.t.len y.t.t.cap, .int .i64 y.t.t.n, .int .i64 y.t.t.s, .int .i64 z.t.t.k, .slice z.t.t.a z.t.t.len z.t.t.cap, .int .i64 z.t.t.n, .int .i64 z.t.t.s]) (by simp [results, Tryz.results70, go_sem, *]) rfl ?_
  have hbt := ((((((((((((But.refl w.heap.size w4).set 0 (.int .i64 x.t.t.k)).set 1 (.slice x.t.t.a x.t.t.len x.t.t.cap)).set 2 (.int .i64 x.t.t.n)).set 3 (.int .i64 x.t.t.s)).set 4 (.int .i64 y.t.t.k)).set 5 (.slice y.t.t.a y.t.t.len y.t.t.cap)).set 6 (.int .i64 y.t.t.n)).set 7 (.int .i64 y.t.t.s)).set 8 (.int .i64 z.t.t.k)).set 9 (.slice z.t.t.a z.t.t.len z.t.t.cap)).set 10 (.int .i64 z.t.t.n)).set 11 (.int .i64 z.t.t.s)
  have hP := HP8.out.but_new hbt
  have hne : rd ≠ w.heap.size := by omega
  have hr := HR.out
  refine ⟨hP, .inr ⟨x, y, z, HX.out.1, HY.out.1, HZ.out.1, HX.out.2, HY.out.2, HZ.out.2, hl4, HT.out, rfl, ?_⟩⟩
  exact HRi.out.past hP ((hbt.cell (p := ⟨rd, 0, none⟩) hne).trans hr.r0) ((hbt.cell (p := ⟨rd, 1, none⟩) hne).trans hr.r1) ((hbt.cell (p := ⟨rd, 2, none⟩) hne).trans hr.r2) ((hbt.frozen (p := ⟨rd, 1, none⟩) hne).trans hr.f1)
end Go.Proofs.YtoclingolfdfeaaGreatDoor
