/- Texts put together: TvM ApqA DrwB ShwA ShwB -/
import Derived.Test.YtidhcbjhggdncaaMk11
import Derived.Test.YtidhcbjhggdncaaMk02
import Derived.Deep.AppendSrc
import Derived.Deep.Upon
import Derived.Laws.IdiomCopy
import Derived.Test.YtidhcbjhggdncaaMk03
import Derived.Test.YtidhcbjhggdncaaMk01
import Derived.Test.YtidhcbjhggdncaaMk04
import Derived.Deep.AppendLies
/- TvM -/
namespace Go.Proofs.Ytidhcbjhggdncaa
open Go.RowKit Go.Deep
set_option maxRecDepth 100000

set_option maxHeartbeats 4000000 in
theorem value_var (x : VW) (d : EN) (w0 w : World) (hk : d.k = 0) (hx : x.lies 0 w0) (hs : solOk x.s x.vn) (ht : BsF 0 w0 d.v) (hw : Below w0.heap.size w0 w) : Calls Try.prog 13 #[.agg #[.slice x.va x.vn x.vc, .slice x.s.a x.s.n x.s.cap], .agg #[.int .i64 d.k, .int .i64 d.op, .slice d.v.a d.v.len d.v.cap, .int .i64 d.t.t.k, .slice d.t.t.a d.t.t.len d.t.t.cap, .int .i64 d.t.t.n, .int .i64 d.t.t.s, .slice d.ka d.n d.kc]] w (ValR w0 (x.C d.v.b) w) := by
  have HT := hid (VX.new w x d 45 29 24)
  have z0 : (d.k == 0) = true := by simp [hk]
  have z1 : (d.k == 1) = false := by simp [hk]
  have z3 : (d.k == 3) = false := by simp [hk]
  have z4 : (d.k == 4) = false := by simp [hk]
  have z5 : (d.k == 5) = false := by simp [hk]
  have z6 : (d.k == 6) = false := by simp [hk]
  have z7 : (d.k == 7) = false := by simp [hk]
  have HC := hid (fun W (h : Below w.heap.size w W) => cell_any x d.v w0 W hx hs ht (bl_trans hw h))
  obtain ⟨o, ho⟩ : ∃ o, o = x.C d.v.b := ⟨_, rfl⟩
  rw [← ho] at HC ⊢
  clear hk hx hs ht hw ho
  go_in
  go_upto_region 1 with fail
  generalize (((w.alloc _).alloc _).alloc _) = W1 at *
  have e0 := HT.out.e.2 0 _ rfl
  have e2 := HT.out.e.2 2 _ rfl
  have lx : W1.rangeAt w.heap.size 0 [.slice x.va x.vn x.vc, .slice x.s.a x.s.n x.s.cap] := HT.out.x.range 0 _ rfl
  go_wp2_with (with_reducible refine wpv_at ?_; refine wpList_load_mid rfl 45 _ rfl _ _ rfl [.slice x.va x.vn x.vc, .slice x.s.a x.s.n x.s.cap] _ lx Try.underlying45 rfl (by kernel_rfl) ?_; try simp only [Act.put, List.setIfInBounds_toArray, List.set_cons_zero, List.set_cons_succ])
  refine (HC.out _ HT.out.bl).mono ?_
  rintro r w2 ⟨t, rfl, hV, hb2⟩
  have HT2 := hid (HT.out.below hb2)
  have HVT := hid hV
  obtain ⟨q, hq⟩ : ∃ q, q = (o).isSome := ⟨_, rfl⟩
  rw [← hq]
  have HQ := hid hq
  have hw := HT2.out.bl
  clear hV hb2 hq HC e0 e2 lx hw HT
  have HT := HT2
  clear HT2
  have HO := hid (OB.new w2 #[.bool false, .int .i64 0, .slice none 0 0, .int .i64 0, .int .i64 0] 56)
  have st : (w2.alloc (.cells #[.bool false, .int .i64 0, .slice none 0 0, .int .i64 0, .int .i64 0] 56)).there w2.heap.size 0 5 := HO.out.there 0 5 (by simp)
  have on : (#[.bool q, .int .i64 t.t.k, .slice t.t.a t.t.len t.t.cap, .int .i64 t.t.n, .int .i64 t.t.s] : Array Value).all (·.oneCell') = true := all_oneCell_toArray (cs := [.bool q, .int .i64 t.t.k, .slice t.t.a t.t.len t.t.cap, .int .i64 t.t.n, .int .i64 t.t.s]) (by simp [Value.oneCell'])
  have HB3 := hid (below_sets (w0 := w2) w2.heap.size (Nat.le_refl _) [.bool q, .int .i64 t.t.k, .slice t.t.a t.t.len t.t.cap, .int .i64 t.t.n, .int .i64 t.t.s] 0 (w2.alloc (.cells #[.bool false, .int .i64 0, .slice none 0 0, .int .i64 0, .int .i64 0] 56)) (bl_a _))
  have HX3 : Hid (Box ((w2.alloc (.cells #[.bool false, .int .i64 0, .slice none 0 0, .int .i64 0, .int .i64 0] 56)).setCells w2.heap.size 0 [.bool q, .int .i64 t.t.k, .slice t.t.a t.t.len t.t.cap, .int .i64 t.t.n, .int .i64 t.t.s]) w2.heap.size [.bool q, .int .i64 t.t.k, .slice t.t.a t.t.len t.t.cap, .int .i64 t.t.n, .int .i64 t.t.s]) := (show Box _ _ _ from (HO.out.sets [.bool q, .int .i64 t.t.k, .slice t.t.a t.t.len t.t.cap, .int .i64 t.t.n, .int .i64 t.t.s] 0).box)
  go_wp2_with (with_reducible refine wpv_at ?_; refine store_stopV 56 (.tmp 6) (.tmp 14) rfl ?_)
  change wpList _ _ _ _ _ _
  refine wpList_store_mid rfl 56 _ _ rfl w2.heap.size 0 #[.bool q, .int .i64 t.t.k, .slice t.t.a t.t.len t.t.cap, .int .i64 t.t.n, .int .i64 t.t.s] rfl rfl st (by kernel_rfl) on ?_
  try simp only [Act.put]
  generalize (w2.alloc (.cells #[.bool false, .int .i64 0, .slice none 0 0, .int .i64 0, .int .i64 0] 56)).setCells w2.heap.size 0 [.bool q, .int .i64 t.t.k, .slice t.t.a t.t.len t.t.cap, .int .i64 t.t.n, .int .i64 t.t.s] = W3 at *
  have HT2 := hid ((HT.out.below HB3.out).below (Below.drew (Below.refl _ _)))
  have HX := hid (HX3.out.below (Below.drew (Below.refl _ _)))
  have hg : w.heap.size + 1 + 1 < w2.heap.size := HT.out.r.1.1
  obtain ⟨g, hgg⟩ : ∃ g, g = w2.heap.size := ⟨_, rfl⟩
  rw [← hgg] at HX hg ⊢
  clear st on HO HB3 HX3 HT hgg
  go_wp2_with fail
  refine wqd (fun w' => Below w.heap.size w w' ∧ Box w' g [.bool q, .int .i64 t.t.k, .slice t.t.a t.t.len t.t.cap, .int .i64 t.t.n, .int .i64 t.t.s]) ?_ fun hHeld => ?_
  · exact ⟨HT2.out.bl, HX.out⟩
  refine tqB 0 15 ?_
  refine ldq 1 16 Try.underlying24 (fun w' h => h.2.range 1 [.int .i64 t.t.k, .slice t.t.a t.t.len t.t.cap, .int .i64 t.t.n, .int .i64 t.t.s] rfl) ?_
  refine tqB 2 17 ?_
  refine tqB 3 18 (v := .bool q) (hy := by intro w' hSw; have e7 := hSw.2.2 0 _ rfl; go_simp; (try with_reducible rfl)) ?_
  have st : W3.drew.there (w.heap.size + 1 + 1) 0 4 := HT2.out.r.there
  have on : (#[.int .i64 t.t.k, .slice t.t.a t.t.len t.t.cap, .int .i64 t.t.n, .int .i64 t.t.s] : Array Value).all (·.oneCell') = true := all_oneCell_toArray (cs := [.int .i64 t.t.k, .slice t.t.a t.t.len t.t.cap, .int .i64 t.t.n, .int .i64 t.t.s]) (by simp [Value.oneCell'])
  have hrd : (W3.drew.setCells (w.heap.size + 1 + 1) 0 [.int .i64 t.t.k, .slice t.t.a t.t.len t.t.cap, .int .i64 t.t.n, .int .i64 t.t.s]).rangeAt (w.heap.size + 1 + 1) 0 [.int .i64 t.t.k, .slice t.t.a t.t.len t.t.cap, .int .i64 t.t.n, .int .i64 t.t.s] := World.rangeAt_setCells_same _ _ _ _ st
  have hbf := hid (HT2.out.sets [.int .i64 t.t.k, .slice t.t.a t.t.len t.t.cap, .int .i64 t.t.n, .int .i64 t.t.s])
  have hxf := hid (HX.out.upper (but_sets (w.heap.size + 1 + 1) [.int .i64 t.t.k, .slice t.t.a t.t.len t.t.cap, .int .i64 t.t.n, .int .i64 t.t.s] 0 W3.drew) (by omega))
  refine rqA 4 fun K hK => ?_
  refine step_storeV 24 (w.heap.size + 1 + 1) 0 #[.int .i64 t.t.k, .slice t.t.a t.t.len t.t.cap, .int .i64 t.t.n, .int .i64 t.t.s] st on ?_
  refine hK.out _ _ ?_ (fun hHeld => ?_)
  · exact ⟨hbf.out.1, hxf.out⟩
  clear hK K st on
  try simp only [Act.put]
  refine tqB 5 5 ?_
  clear hHeld
  generalize W3.drew.setCells (w.heap.size + 1 + 1) 0 [.int .i64 t.t.k, .slice t.t.a t.t.len t.t.cap, .int .i64 t.t.n, .int .i64 t.t.s] = W5 at *
  refine wpAnyH_done (by kernel_rfl) ?_ _
  go_wp2
  try simp only [Exit.inBlock, Exit.then]
  refine bodyPost_ret (v := .tuple #[.agg #[.int .i64 t.t.k, .slice t.t.a t.t.len t.t.cap, .int .i64 t.t.n, .int .i64 t.t.s], .bool q]) ?hrv rfl ?hpv
  case hrv => exact results_cell2 rfl rfl rfl (run_loadVar_mid (P := Try.prog) _ (w.heap.size + 1 + 1) 0 24 [.int .i64 t.t.k, .slice t.t.a t.t.len t.t.cap, .int .i64 t.t.n, .int .i64 t.t.s] _ hrd Try.underlying24 rfl (by kernel_rfl))
  exact ⟨t, by rw [HQ.out], HVT.out, hbf.out.1⟩
set_option maxHeartbeats 4000000 in
theorem value_not (x : VW) (d : EN) (w0 w : World) (hk : d.k = 3) (b off : Nat) (hn : d.n = 1) (ha : d.ka = some ⟨b, off, none⟩) (hb : b < w0.heap.size) (kid : Nat → ET) (hR : ∀ i, i < 1 → ∀ c u, (kid i).d.cells[c]? = some u → w0.cell? ⟨b, off + i * 8 + c, none⟩ = some u) (hv : ∀ i, i < 1 → KV x w0 (kid i)) (hw : Below w0.heap.size w0 w) : Calls Try.prog 13 #[.agg #[.slice x.va x.vn x.vc, .slice x.s.a x.s.n x.s.cap], .agg #[.int .i64 d.k, .int .i64 d.op, .slice d.v.a d.v.len d.v.cap, .int .i64 d.t.t.k, .slice d.t.t.a d.t.t.len d.t.t.cap, .int .i64 d.t.t.n, .int .i64 d.t.t.s, .slice d.ka d.n d.kc]] w (ValR w0 (ans (2 - tru (val x.C (kid 0)))) w) := by
  have HT := hid (VX.new w x d 45 29 24)
  have z0 : (d.k == 0) = false := by simp [hk]
  have z1 : (d.k == 1) = false := by simp [hk]
  have z3 : (d.k == 3) = true := by simp [hk]
  have z4 : (d.k == 4) = false := by simp [hk]
  have z5 : (d.k == 5) = false := by simp [hk]
  have z6 : (d.k == 6) = false := by simp [hk]
  have z7 : (d.k == 7) = false := by simp [hk]
  have HU := hid (fun W (h : Below w.heap.size w W) => truth_of x (kid 0) w0 W (hv 0 (by omega)) (bl_trans hw h))
  have HR : Hid (∀ i, i < 1 → ∀ W, Below w.heap.size w W → W.rangeAt b (off + i * 8) [.int .i64 (kid i).d.k, .int .i64 (kid i).d.op, .slice (kid i).d.v.a (kid i).d.v.len (kid i).d.v.cap, .int .i64 (kid i).d.t.t.k, .slice (kid i).d.t.t.a (kid i).d.t.t.len (kid i).d.t.t.cap, .int .i64 (kid i).d.t.t.n, .int .i64 (kid i).d.t.t.s, .slice (kid i).d.ka (kid i).d.n (kid i).d.kc]) := fun i hi W h j v hv => ((bl_trans hw h).cell (p := ⟨b, off + i * 8 + j, none⟩) hb).trans (hR i hi j v hv)
  have HTR := tru_range (val x.C (kid 0))
  obtain ⟨c, hcc⟩ : ∃ c, c = tru (val x.C (kid 0)) := ⟨_, rfl⟩
  rw [← hcc] at HU HTR ⊢
  have HOP := hid (fun W => opposite_any c W HTR)
  have HTT := hid (fun W => truthTerm_any (2 - c) w0 W (by omega))
  have HN := hid hn
  have HA := hid ha
  have HE7 : Hid (∀ w' : World, Box w' (w.heap.size + 1) [.int .i64 d.k, .int .i64 d.op, .slice d.v.a d.v.len d.v.cap, .int .i64 d.t.t.k, .slice d.t.t.a d.t.t.len d.t.t.cap, .int .i64 d.t.t.n, .int .i64 d.t.t.s, .slice d.ka d.n d.kc] → w'.cell? ⟨w.heap.size + 1, 7, none⟩ = some (.slice (some ⟨b, off, none⟩) 1 d.kc)) := fun w' h => by have h7 := h.2 7 _ rfl; rw [HN.out, HA.out] at h7; exact h7
  clear hk hv hR hb hw hcc hn ha HTR
  go_in
  go_upto_region 1 with fail
  generalize (((w.alloc _).alloc _).alloc _) = W1 at *
  have e0 := HT.out.e.2 0 _ rfl
  go_wp2_with fail
  refine wqd (fun w' => Below w.heap.size w w' ∧ Box w' w.heap.size [.slice x.va x.vn x.vc, .slice x.s.a x.s.n x.s.cap] ∧ Box w' (w.heap.size + 1) [.int .i64 d.k, .int .i64 d.op, .slice d.v.a d.v.len d.v.cap, .int .i64 d.t.t.k, .slice d.t.t.a d.t.t.len d.t.t.cap, .int .i64 d.t.t.n, .int .i64 d.t.t.s, .slice d.ka d.n d.kc]) ?_ fun hHeld => ?_
  · exact ⟨Below.drew HT.out.bl, (HT.out.below (Below.drew (Below.refl _ _))).x, (HT.out.below (Below.drew (Below.refl _ _))).e⟩
  refine ldq 0 25 Try.underlying45 (fun w' h => h.2.1.range 0 [.slice x.va x.vn x.vc, .slice x.s.a x.s.n x.s.cap] rfl) ?_
  refine tqB 1 26 ?_
  refine tqB 2 27 (v := .slice (some ⟨b, off, none⟩) 1 d.kc) (hy := by intro w' hSw; have e7 := HE7.out w' hSw.2.2; clear HE7; go_simp; (try with_reducible rfl)) ?_
  refine tqB 3 28 ?_
  refine ldq 4 29 Try.underlying29 (fun w' h => HR.out 0 (by omega) w' h.1) ?_
  refine rqA 5 fun K hK => ?_
  go_simp
  refine (HU.out _ hHeld.1).mono ?_
  rintro r w2 ⟨rfl, hb2⟩
  have HT1 := hid ((HT.out.below (Below.drew (Below.refl _ _))).below hb2)
  clear hHeld hb2 HT HU e0
  go_wp2_with fail
  refine hK.out _ _ ?_ (fun hHeld => ?_)
  · exact ⟨HT1.out.bl, HT1.out.x, HT1.out.e⟩
  clear hK K
  try simp only [Act.put, List.setIfInBounds_toArray, List.set_cons_zero, List.set_cons_succ]
  refine rqA 6 fun K hK => ?_
  go_simp
  refine (HOP.out _).mono ?_
  rintro r w3 ⟨rfl, rfl⟩
  clear HOP
  go_wp2_with fail
  refine hK.out _ _ ?_ (fun hHeld2 => ?_)
  · exact hHeld
  clear hK K hHeld2
  try simp only [Act.put, List.setIfInBounds_toArray, List.set_cons_zero, List.set_cons_succ]
  refine rqA 7 fun K hK => ?_
  go_simp
  refine (HTT.out _).mono ?_
  rintro r w4 ⟨t, rfl, hV, hb2⟩
  have HT2 := hid (HT1.out.below hb2)
  have HVT := hid hV
  obtain ⟨q, hq⟩ : ∃ q, q = (ans (2 - c)).isSome := ⟨_, rfl⟩
  rw [← hq]
  have HQ := hid hq
  have hw := HT2.out.bl
  clear hV hb2 hq HTT hHeld HT1 hw
  go_wp2_with fail
  refine hK.out _ _ ?_ (fun hHeld => ?_)
  · exact ⟨HT2.out.bl, HT2.out.x, HT2.out.e⟩
  clear hK K
  try simp only [Act.put, List.setIfInBounds_toArray, List.set_cons_zero, List.set_cons_succ]
  refine tqB 8 33 ?_
  refine tqB 9 34 ?_
  have st : w4.there (w.heap.size + 1 + 1) 0 4 := HT2.out.r.there
  have on : (#[.int .i64 t.t.k, .slice t.t.a t.t.len t.t.cap, .int .i64 t.t.n, .int .i64 t.t.s] : Array Value).all (·.oneCell') = true := all_oneCell_toArray (cs := [.int .i64 t.t.k, .slice t.t.a t.t.len t.t.cap, .int .i64 t.t.n, .int .i64 t.t.s]) (by simp [Value.oneCell'])
  have hrd : (w4.setCells (w.heap.size + 1 + 1) 0 [.int .i64 t.t.k, .slice t.t.a t.t.len t.t.cap, .int .i64 t.t.n, .int .i64 t.t.s]).rangeAt (w.heap.size + 1 + 1) 0 [.int .i64 t.t.k, .slice t.t.a t.t.len t.t.cap, .int .i64 t.t.n, .int .i64 t.t.s] := World.rangeAt_setCells_same _ _ _ _ st
  have hbf := hid (HT2.out.sets [.int .i64 t.t.k, .slice t.t.a t.t.len t.t.cap, .int .i64 t.t.n, .int .i64 t.t.s])
  refine rqA 10 fun K hK => ?_
  refine step_storeV 24 (w.heap.size + 1 + 1) 0 #[.int .i64 t.t.k, .slice t.t.a t.t.len t.t.cap, .int .i64 t.t.n, .int .i64 t.t.s] st on ?_
  refine hK.out _ _ ?_ (fun hHeld => ?_)
  · exact hbf.out
  clear hK K st on
  try simp only [Act.put]
  refine tqB 11 5 ?_
  clear hHeld
  generalize w4.setCells (w.heap.size + 1 + 1) 0 [.int .i64 t.t.k, .slice t.t.a t.t.len t.t.cap, .int .i64 t.t.n, .int .i64 t.t.s] = W5 at *
  refine wpAnyH_done (by kernel_rfl) ?_ _
  go_wp2
  try simp only [Exit.inBlock, Exit.then]
  refine bodyPost_ret (v := .tuple #[.agg #[.int .i64 t.t.k, .slice t.t.a t.t.len t.t.cap, .int .i64 t.t.n, .int .i64 t.t.s], .bool q]) ?hrn rfl ?hpn
  case hrn => exact results_cell2 rfl rfl rfl (run_loadVar_mid (P := Try.prog) _ (w.heap.size + 1 + 1) 0 24 [.int .i64 t.t.k, .slice t.t.a t.t.len t.t.cap, .int .i64 t.t.n, .int .i64 t.t.s] _ hrd Try.underlying24 rfl (by kernel_rfl))
  exact ⟨t, by rw [HQ.out], HVT.out, hbf.out.1⟩
set_option maxHeartbeats 4000000 in
theorem value_len (x : VW) (d : EN) (w0 w : World) (hk : d.k = 7) (b off : Nat) (hn : d.n = 1) (ha : d.ka = some ⟨b, off, none⟩) (hb : b < w0.heap.size) (kid : Nat → ET) (hR : ∀ i, i < 1 → ∀ c u, (kid i).d.cells[c]? = some u → w0.cell? ⟨b, off + i * 8 + c, none⟩ = some u) (hv : ∀ i, i < 1 → KV x w0 (kid i)) (hw : Below w0.heap.size w0 w) : Calls Try.prog 13 #[.agg #[.slice x.va x.vn x.vc, .slice x.s.a x.s.n x.s.cap], .agg #[.int .i64 d.k, .int .i64 d.op, .slice d.v.a d.v.len d.v.cap, .int .i64 d.t.t.k, .slice d.t.t.a d.t.t.len d.t.t.cap, .int .i64 d.t.t.n, .int .i64 d.t.t.s, .slice d.ka d.n d.kc]] w (ValR w0 (lenV (val x.C (kid 0))) w) := by
  have HT := hid (VX.new w x d 45 29 24)
  have z0 : (d.k == 0) = false := by simp [hk]
  have z1 : (d.k == 1) = false := by simp [hk]
  have z3 : (d.k == 3) = false := by simp [hk]
  have z4 : (d.k == 4) = false := by simp [hk]
  have z5 : (d.k == 5) = false := by simp [hk]
  have z6 : (d.k == 6) = false := by simp [hk]
  have z7 : (d.k == 7) = true := by simp [hk]
  have HU := hid (fun W (h : Below w.heap.size w W) => length_of x (kid 0) w0 W (hv 0 (by omega)) (bl_trans hw h))
  have HR : Hid (∀ i, i < 1 → ∀ W, Below w.heap.size w W → W.rangeAt b (off + i * 8) [.int .i64 (kid i).d.k, .int .i64 (kid i).d.op, .slice (kid i).d.v.a (kid i).d.v.len (kid i).d.v.cap, .int .i64 (kid i).d.t.t.k, .slice (kid i).d.t.t.a (kid i).d.t.t.len (kid i).d.t.t.cap, .int .i64 (kid i).d.t.t.n, .int .i64 (kid i).d.t.t.s, .slice (kid i).d.ka (kid i).d.n (kid i).d.kc]) := fun i hi W h j v hv => ((bl_trans hw h).cell (p := ⟨b, off + i * 8 + j, none⟩) hb).trans (hR i hi j v hv)
  obtain ⟨o, ho⟩ : ∃ o, o = lenV (val x.C (kid 0)) := ⟨_, rfl⟩
  rw [← ho] at HU ⊢
  have HN := hid hn
  have HA := hid ha
  have HE7 : Hid (∀ w' : World, Box w' (w.heap.size + 1) [.int .i64 d.k, .int .i64 d.op, .slice d.v.a d.v.len d.v.cap, .int .i64 d.t.t.k, .slice d.t.t.a d.t.t.len d.t.t.cap, .int .i64 d.t.t.n, .int .i64 d.t.t.s, .slice d.ka d.n d.kc] → w'.cell? ⟨w.heap.size + 1, 7, none⟩ = some (.slice (some ⟨b, off, none⟩) 1 d.kc)) := fun w' h => by have h7 := h.2 7 _ rfl; rw [HN.out, HA.out] at h7; exact h7
  clear hk hv hR hb hw ho hn ha
  go_in
  go_upto_region 1 with fail
  generalize (((w.alloc _).alloc _).alloc _) = W1 at *
  have e0 := HT.out.e.2 0 _ rfl
  go_wp2_with fail
  refine wqd (fun w' => Below w.heap.size w w' ∧ Box w' w.heap.size [.slice x.va x.vn x.vc, .slice x.s.a x.s.n x.s.cap] ∧ Box w' (w.heap.size + 1) [.int .i64 d.k, .int .i64 d.op, .slice d.v.a d.v.len d.v.cap, .int .i64 d.t.t.k, .slice d.t.t.a d.t.t.len d.t.t.cap, .int .i64 d.t.t.n, .int .i64 d.t.t.s, .slice d.ka d.n d.kc]) ?_ fun hHeld => ?_
  · exact ⟨Below.drew HT.out.bl, (HT.out.below (Below.drew (Below.refl _ _))).x, (HT.out.below (Below.drew (Below.refl _ _))).e⟩
  refine ldq 0 64 Try.underlying45 (fun w' h => h.2.1.range 0 [.slice x.va x.vn x.vc, .slice x.s.a x.s.n x.s.cap] rfl) ?_
  refine tqB 1 65 ?_
  refine tqB 2 66 (v := .slice (some ⟨b, off, none⟩) 1 d.kc) (hy := by intro w' hSw; have e7 := HE7.out w' hSw.2.2; clear HE7; go_simp; (try with_reducible rfl)) ?_
  refine tqB 3 67 ?_
  refine ldq 4 68 Try.underlying29 (fun w' h => HR.out 0 (by omega) w' h.1) ?_
  refine rqA 5 fun K hK => ?_
  go_simp
  refine (HU.out _ hHeld.1).mono ?_
  have HT1 := hid (HT.out.below (Below.drew (Below.refl _ _)))
  rintro r w4 ⟨t, rfl, hV, hb2⟩
  have HT2 := hid (HT1.out.below hb2)
  have HVT := hid hV
  obtain ⟨q, hq⟩ : ∃ q, q = (o).isSome := ⟨_, rfl⟩
  rw [← hq]
  have HQ := hid hq
  have hw := HT2.out.bl
  clear hV hb2 hq hHeld HT1 hw HT HU e0
  go_wp2_with fail
  refine hK.out _ _ ?_ (fun hHeld => ?_)
  · exact ⟨HT2.out.bl, HT2.out.x, HT2.out.e⟩
  clear hK K
  try simp only [Act.put, List.setIfInBounds_toArray, List.set_cons_zero, List.set_cons_succ]
  refine tqB 6 70 ?_
  refine tqB 7 71 ?_
  have st : w4.there (w.heap.size + 1 + 1) 0 4 := HT2.out.r.there
  have on : (#[.int .i64 t.t.k, .slice t.t.a t.t.len t.t.cap, .int .i64 t.t.n, .int .i64 t.t.s] : Array Value).all (·.oneCell') = true := all_oneCell_toArray (cs := [.int .i64 t.t.k, .slice t.t.a t.t.len t.t.cap, .int .i64 t.t.n, .int .i64 t.t.s]) (by simp [Value.oneCell'])
  have hrd : (w4.setCells (w.heap.size + 1 + 1) 0 [.int .i64 t.t.k, .slice t.t.a t.t.len t.t.cap, .int .i64 t.t.n, .int .i64 t.t.s]).rangeAt (w.heap.size + 1 + 1) 0 [.int .i64 t.t.k, .slice t.t.a t.t.len t.t.cap, .int .i64 t.t.n, .int .i64 t.t.s] := World.rangeAt_setCells_same _ _ _ _ st
  have hbf := hid (HT2.out.sets [.int .i64 t.t.k, .slice t.t.a t.t.len t.t.cap, .int .i64 t.t.n, .int .i64 t.t.s])
  refine rqA 8 fun K hK => ?_
  refine step_storeV 24 (w.heap.size + 1 + 1) 0 #[.int .i64 t.t.k, .slice t.t.a t.t.len t.t.cap, .int .i64 t.t.n, .int .i64 t.t.s] st on ?_
  refine hK.out _ _ ?_ (fun hHeld => ?_)
  · exact hbf.out
  clear hK K st on
  try simp only [Act.put]
  refine tqB 9 5 ?_
  clear hHeld
  generalize w4.setCells (w.heap.size + 1 + 1) 0 [.int .i64 t.t.k, .slice t.t.a t.t.len t.t.cap, .int .i64 t.t.n, .int .i64 t.t.s] = W5 at *
  refine wpAnyH_done (by kernel_rfl) ?_ _
  go_wp2
  try simp only [Exit.inBlock, Exit.then]
  refine bodyPost_ret (v := .tuple #[.agg #[.int .i64 t.t.k, .slice t.t.a t.t.len t.t.cap, .int .i64 t.t.n, .int .i64 t.t.s], .bool q]) ?hrl rfl ?hpl
  case hrl => exact results_cell2 rfl rfl rfl (run_loadVar_mid (P := Try.prog) _ (w.heap.size + 1 + 1) 0 24 [.int .i64 t.t.k, .slice t.t.a t.t.len t.t.cap, .int .i64 t.t.n, .int .i64 t.t.s] _ hrd Try.underlying24 rfl (by kernel_rfl))
  exact ⟨t, by rw [HQ.out], HVT.out, hbf.out.1⟩
set_option maxHeartbeats 1000000 in
theorem value_any (x : VW) (w0 : World) (hx : x.lies 0 w0) (hs : solOk x.s x.vn) (e : ET) : ∀ q p : Int, e.lies 0 w0 → eOk q e p → KV x w0 e := by
  induction e with
  | nil => exact fun _ _ h => False.elim h
  | mk d kid ih =>
    intro q p hl hok W hW
    obtain ⟨hv, ht, hf, hn, hR, hk⟩ := hl
    obtain ⟨_, ⟨hko, _, _, _, _, hop, _⟩, hkk⟩ := hok
    have IH : ∀ i, i < d.n → KV x w0 (kid i) := fun i hi => ih i q (p + 1) (hk i hi) (hkk i hi)
    have HR : ∀ n, 0 < n → d.n = n → ∃ b off, d.ka = some ⟨b, off, none⟩ ∧ b < w0.heap.size ∧ ∀ i, i < n → ∀ c u, (kid i).d.cells[c]? = some u → w0.cell? ⟨b, off + i * 8 + c, none⟩ = some u := fun n h0 e => by
      obtain ⟨b, off, ha, _, hb, hc⟩ := hR.resolve_left (by omega)
      exact ⟨b, off, ha, hb, fun i hi c u h => hc i (by omega) c u h⟩
    have ev : val x.C (.mk d kid) = (if d.k = 0 then x.C d.v.b else if d.k = 1 then some d.t.td else if d.k = 3 then ans (2 - tru (val x.C (kid 0))) else if d.k = 4 then ans (ansB (x.C d.v.b).isSome) else if d.k = 5 then ifV (tru (val x.C (kid 0))) (val x.C (kid 1)) (val x.C (kid 2)) else if d.k = 6 then firstV d.n (fun i => val x.C (kid i)) else if d.k = 7 then lenV (val x.C (kid 0)) else opV d.op (val x.C (kid 0)) (val x.C (kid 1))) := rfl
    rw [ev]
    rcases hko with ⟨h | h | h, _⟩ | ⟨h | h, hn1⟩ | ⟨h, hn2⟩ | ⟨h, hn3⟩ | ⟨h, _, _⟩
    · rw [if_pos h]
      exact value_var x d w0 W h hx hs hv hW
    · rw [if_neg (by omega), if_pos h]
      exact value_term x d w0 W h ht hf hW
    · rw [if_neg (by omega), if_neg (by omega), if_neg (by omega), if_pos h]
      exact value_bound x d w0 W h hx hs hv hW
    · rw [if_neg (by omega), if_neg (by omega), if_pos h]
      obtain ⟨b, off, ha, hb, hc⟩ := HR 1 (by omega) hn1
      exact value_not x d w0 W h b off hn1 ha hb kid hc (fun i hi => IH i (by omega)) hW
    · rw [if_neg (by omega), if_neg (by omega), if_neg (by omega), if_neg (by omega), if_neg (by omega), if_neg (by omega), if_pos h]
      obtain ⟨b, off, ha, hb, hc⟩ := HR 1 (by omega) hn1
      exact value_len x d w0 W h b off hn1 ha hb kid hc (fun i hi => IH i (by omega)) hW
    · rw [if_neg (by omega), if_neg (by omega), if_neg (by omega), if_neg (by omega), if_neg (by omega), if_neg (by omega), if_neg (by omega)]
      obtain ⟨b, off, ha, hb, hc⟩ := HR 2 (by omega) hn2
      exact value_op x d w0 W h hop.1 hop.2 b off hn2 ha hb kid hc (fun i hi => IH i (by omega)) hW
    · rw [if_neg (by omega), if_neg (by omega), if_neg (by omega), if_neg (by omega), if_pos h]
      obtain ⟨b, off, ha, hb, hc⟩ := HR 3 (by omega) hn3
      exact value_if x d w0 W h b off hn3 ha hb kid hc (fun i hi => IH i (by omega)) hW
    · rw [if_neg (by omega), if_neg (by omega), if_neg (by omega), if_neg (by omega), if_neg (by omega), if_pos h]
      exact value_coal x d w0 W h kid hn hR IH hW
end Go.Proofs.Ytidhcbjhggdncaa

/- ApqA -/
namespace Go.Proofs.Ytidhcbjhggdncaa
open Go.RowKit Go.Deep
set_option maxRecDepth 100000

theorem below_setCells {w0 : World} {B b : Nat} (hB : B ≤ b) : ∀ (vs : List Value) (o : Nat) (w : World), Below B w0 w → Below B w0 (w.setCells b o vs)
  | [], _, _, h => h
  | v :: r, o, w, h => by
    rw [World.setCells]
    exact below_setCells hB r (o + 1) _ (h.setCell (p := ⟨b, o, none⟩) hB v)
theorem bs_of_cells {w : World} {g n : Nat} {bs : List Int} (hl : bs.length = n) (hn : n ≤ 1048576) (hb : Byt bs) (hg : g < w.heap.size) (hc : ∀ i, i < n → w.cell? ⟨g, i, none⟩ = some (.int .u8 (bs[i]?.getD 0))) : Bs w (some ⟨g, 0, none⟩) n bs :=
  ⟨hl, hn, fun i => hb.get i, .inr ⟨g, 0, rfl, hg, fun i hi => by rw [Nat.zero_add]; exact hc i hi⟩⟩
end Go.Proofs.Ytidhcbjhggdncaa

/- DrwB -/
namespace Go.Proofs.Ytidhcbjhggdncaa
open Go.RowKit Go.Deep

/-- What a new cursor is. -/
def CurRes (w : World) (a : Option Addr) (len cap : Nat) (e : Ending) (w' : World) : Prop := e = .returned (.pointer (some ⟨w.heap.size, 0, none⟩)) ∧ Below w.heap.size w w' ∧ Cur w' w.heap.size a len cap
set_option maxRecDepth 20000 in
theorem l1New_any (a : Option Addr) (len cap : Nat) (w : World) (_hlen : len ≤ 9223372036854775807) (hC : Code w a len) :
    Calls Try.prog 15 #[.slice a len cap] w fun e w' => CurRes w a len cap e w' := by
  have HC : Hid (Code w a len) := hC
  have HE : Hid (∀ h : Int, ∀ T, Cur (w.alloc (.cells #[.slice a len cap, .int .i64 0, .int .i64 h] T)) w.heap.size a len cap) := by
    intro h T
    refine ⟨by simp, by simp [go_sem], ⟨0, Nat.zero_le _, by simp [go_sem]⟩, ⟨h, by simp [go_sem]⟩, by simp [go_sem], by simp [go_sem], ?_⟩
    rcases hC with hc | ⟨b, off, ha, hlt, hc⟩
    · exact .inl hc
    · refine .inr ⟨b, off, ha, by simp; omega, by omega, fun i hi => ?_⟩
      rw [(bl_a (w := w) _).cell (p := ⟨b, off + i, none⟩) hlt]
      exact hc i hi
  clear hC
  go_enter Try.func15, Try.ntmps15
  go_wp2
  go_loopw [3, 4] (fun x i wr => ∃ (k : Nat) (h : Int), k ≤ len ∧ k ≤ 4000 ∧ i = .int .i64 k ∧ x = .int .i64 h ∧ wr = w)
    (fun _ i _ => 4000 - (intOf i).toNat)
  case atStart => exact ⟨0, _, Nat.zero_le _, Nat.zero_le _, rfl, rfl, rfl⟩
  case round =>
    obtain ⟨k, h, hk, hk4, rfl, rfl, rfl⟩ := hrel
    by_cases hlk : k < len
    · by_cases hl4 : k < 4000
      · obtain ⟨b, off, rfl, hlt, hc⟩ := HC.out.resolve_left (by omega)
        obtain ⟨v, cv, v0, v1⟩ := hc k hlk
        clear hc
        go_wp2
        go_roundw
        case rel => exact ⟨k + 1, ⟨_, by omega, by omega, by go_num, rfl, trivial⟩⟩
        case measure => simp [intOf]; omega
      · have h4 : decide ((k : Int) < 4000) = false := by simp; omega
        go_wp2
        go_ret
        exact ⟨rfl, bl_a _, HE.out _ _⟩
    · go_wp2
      go_ret
      exact ⟨rfl, bl_a _, HE.out _ _⟩


theorem Tx.past {w w' : World} {B c : Nat} {a : Option Addr} {len cap : Nat} {bs : List Int} (h : Tx w B a len cap bs) (hb : Past c w w') (hc : c < B) : Tx w' B a len cap bs := by
  rcases h.2 with h2 | ⟨g, rfl, hB, hg, hl, hcs⟩
  · obtain ⟨rfl, rfl, rfl⟩ := h2
    obtain ⟨l1, l2, l3, _⟩ := h.1
    exact ⟨⟨l1, l2, l3, .inl rfl⟩, .inl ⟨rfl, rfl, rfl⟩⟩
  · have ec : ∀ j, w'.cell? ⟨g, j, none⟩ = w.cell? ⟨g, j, none⟩ := fun j => hb.cell (p := ⟨g, j, none⟩) hg (by show g ≠ c; omega)
    have ef : ∀ j, w'.frozen? ⟨g, j, none⟩ = w.frozen? ⟨g, j, none⟩ := fun j => hb.frozen (p := ⟨g, j, none⟩) hg (by show g ≠ c; omega)
    obtain ⟨l1, l2, l3, l4⟩ := h.1
    refine ⟨⟨l1, l2, l3, ?_⟩, .inr ⟨g, rfl, hB, Nat.lt_of_lt_of_le hg hb.size, hl, fun j hj => ?_⟩⟩
    · rcases l4 with l4 | ⟨b, off, ha, hlt, hcc⟩
      · exact .inl l4
      · cases ha
        exact .inr ⟨g, 0, rfl, Nat.lt_of_lt_of_le hg hb.size, fun i hi => (ec (0 + i)).trans (hcc i hi)⟩
    · rw [ec j, ef j]
      exact hcs j hj
/-- What a draw of a term answers. -/
def TermRes (B : Nat) (e : Ending) (w' : World) : Prop := ∃ (k n s : Int) (a : Option Addr) (len cap : Nat) (bs : List Int), e = .returned (.agg #[.int .i64 k, .slice a len cap, .int .i64 n, .int .i64 s]) ∧ (-9223372036854775808 ≤ n ∧ n ≤ 9223372036854775807) ∧ (0 ≤ s ∧ s ≤ 6) ∧ len ≤ 100 ∧ Tx w' B a len cap bs

theorem l1name_any (s : ByteArray) (w : World) (hs : s.size ≤ 100) :
    Calls Try.prog 60 #[.string s] w fun e w' => TermRes w.heap.size e w' ∧ Below w.heap.size w w' := by
  have hcv := fun w => Lib.run_convert_string_bytes (P := Try.prog) w 9 22 5 s Try.underlying9 Try.underlying22 Try.underlying5
  have hW : ∀ T, Own4 (w.alloc (.cells #[.int .i64 0, .slice none 0 0, .int .i64 0, .int .i64 0] T)) w.heap.size (.int .i64 0) (.slice none 0 0) (.int .i64 0) (.int .i64 0) := fun T => Own4.at w _ _ _ _ _ T rfl
  have hb1 := bytesWorld_below (w.alloc (.cells #[.int .i64 0, .slice none 0 0, .int .i64 0, .int .i64 0] 24)) 5 s
  have hT := Tx.conv (w.alloc (.cells #[.int .i64 0, .slice none 0 0, .int .i64 0, .int .i64 0] 24)) s 5 (by omega)
  have hO := (hW 24).below hb1
  clear hW
  obtain ⟨⟨o0, o1, o2, o3, o4⟩, f0, f1, f2, f3⟩ := id hO
  have HT : Hid (Tx (Lib.bytesWorld (w.alloc (.cells #[.int .i64 0, .slice none 0 0, .int .i64 0, .int .i64 0] 24)) 5 s) (w.alloc (.cells #[.int .i64 0, .slice none 0 0, .int .i64 0, .int .i64 0] 24)).heap.size (some ⟨(w.alloc (.cells #[.int .i64 0, .slice none 0 0, .int .i64 0, .int .i64 0] 24)).heap.size, 0, none⟩) s.size (grownCap (w.alloc (.cells #[.int .i64 0, .slice none 0 0, .int .i64 0, .int .i64 0] 24)) s.size 0 5) (numsOf s)) := hT
  have HB : Hid (Below w.heap.size w (Lib.bytesWorld (w.alloc (.cells #[.int .i64 0, .slice none 0 0, .int .i64 0, .int .i64 0] 24)) 5 s)) := bl_trans (bl_a _) hb1
  clear hT hb1 hO
  go_enter Try.func60, Try.ntmps60
  go_wp2
  refine bodyPost_ret (v := .agg #[.int .i64 0, .slice (some ⟨w.heap.size + 1, 0, none⟩) s.size (grownCap (w.alloc (.cells #[.int .i64 0, .slice none 0 0, .int .i64 0, .int .i64 0] 24)) s.size 0 5), .int .i64 0, .int .i64 0]) (by simp [results, Try.results60, go_sem, *]) rfl ⟨⟨0, 0, 0, _, _, _, numsOf s, rfl, by omega, by omega, hs, ?_⟩, ?_⟩
  · have hP := Past.set (Past.set (Past.set (Past.set (Past.refl w.heap.size (Lib.bytesWorld (w.alloc (.cells #[.int .i64 0, .slice none 0 0, .int .i64 0, .int .i64 0] 24)) 5 s)) 0 (.int .i64 0)) 1 (.slice (some ⟨w.heap.size + 1, 0, none⟩) s.size (grownCap (w.alloc (.cells #[.int .i64 0, .slice none 0 0, .int .i64 0, .int .i64 0] 24)) s.size 0 5))) 2 (.int .i64 0)) 3 (.int .i64 0)
    have := (HT.out.past hP (by simp)).mono (B' := w.heap.size) (by simp)
    simpa using this
  · exact bl_set (bl_set (bl_set (bl_set HB.out (Nat.le_refl _) _) (Nat.le_refl _) _) (Nat.le_refl _) _) (Nat.le_refl _) _
theorem l1int_d (n : Int) (w : World) (h : -9223372036854775808 ≤ n ∧ n ≤ 9223372036854775807) :
    Calls Try.prog 62 #[.int .i64 n] w fun e w' => TermRes w.heap.size e w' ∧ Below w.heap.size w w' := by
  go_enter Try.func62, Try.ntmps62
  go_wp2
  refine bodyPost_ret (v := .agg #[.int .i64 3, .slice none 0 0, .int .i64 n, .int .i64 0]) (by simp [results, Try.results62, go_sem]) rfl ⟨⟨3, n, 0, none, 0, 0, [], rfl, h, by omega, by omega, Tx.nil _ _⟩, bl_a _⟩
theorem Own4.past {w w' : World} {g b : Nat} {v0 v1 v2 v3 : Value} (h : Own4 w b v0 v1 v2 v3) (hb : Past g w w') (hn : b ≠ g) : Own4 w' b v0 v1 v2 v3 := by
  obtain ⟨⟨hl, h0, h1, h2, h3⟩, f0, f1, f2, f3⟩ := h
  exact ⟨⟨Nat.lt_of_lt_of_le hl hb.size, (hb.cell (p := ⟨b, 0, none⟩) hl hn).trans h0, (hb.cell (p := ⟨b, 1, none⟩) hl hn).trans h1, (hb.cell (p := ⟨b, 2, none⟩) hl hn).trans h2, (hb.cell (p := ⟨b, 3, none⟩) hl hn).trans h3⟩,
    (hb.frozen (p := ⟨b, 0, none⟩) hl hn).trans f0, (hb.frozen (p := ⟨b, 1, none⟩) hl hn).trans f1, (hb.frozen (p := ⟨b, 2, none⟩) hl hn).trans f2, (hb.frozen (p := ⟨b, 3, none⟩) hl hn).trans f3⟩
end Go.Proofs.Ytidhcbjhggdncaa

/- ShwA -/
namespace Go.Proofs.Ytidhcbjhggdncaa
open Go.RowKit Go.Deep
set_option maxRecDepth 100000

/-- A row of bytes of the call's own, in block g, that may grow. -/
def Row8 (w : World) (B g n cap : Nat) (bs : List Int) : Prop := w.ownsRow B 5 1 (.slice (some ⟨g, 0, none⟩) n cap) n (bs.map (Value.int .u8)) ∧ g < w.heap.size
/-- A row of bytes that is new. -/
theorem Row8.new (w : World) (x : Int) : Row8 (w.alloc (.cells #[.int .u8 x] 5)) w.heap.size w.heap.size 1 1 [x] := by
  refine ⟨⟨rfl, .inr ⟨w.heap.size, 1, #[.int .u8 x], rfl, Nat.le_refl _, by simp [World.alloc, -World.alloc_eq], by omega, by unfold maxLen; omega, rfl, rfl⟩⟩, by simp⟩
theorem Row8.below {w w' : World} {B g n cap : Nat} {bs : List Int} (h : Row8 w B g n cap bs) (hb : Below w.heap.size w w') : Row8 w' B g n cap bs := by
  obtain ⟨⟨h1, h2⟩, hl⟩ := h
  refine ⟨⟨h1, ?_⟩, Nat.lt_of_lt_of_le hl hb.size⟩
  rcases h2 with ⟨h2, _⟩ | ⟨g', cap', cur, hv, hB, hh, r⟩
  · cases h2
  · refine .inr ⟨g', cap', cur, hv, hB, ?_, r⟩
    cases hv
    rw [hb.block g hl]
    exact hh
theorem Row8.mono {w : World} {B B' g n cap : Nat} {bs : List Int} (h : Row8 w B g n cap bs) (hB : B' ≤ B) : Row8 w B' g n cap bs := by
  obtain ⟨⟨h1, h2⟩, hl⟩ := h
  refine ⟨⟨h1, ?_⟩, hl⟩
  rcases h2 with ⟨h2, _⟩ | ⟨g', cap', cur, hv, hb, r⟩
  · cases h2
  · exact .inr ⟨g', cap', cur, hv, Nat.le_trans hB hb, r⟩
end Go.Proofs.Ytidhcbjhggdncaa

/- ShwB -/
namespace Go.Proofs.Ytidhcbjhggdncaa
open Go.RowKit Go.Deep
set_option maxRecDepth 100000

theorem oneCell_map (bs : List Int) : ∀ u ∈ bs.map (Value.int .u8), u.oneCell' = true := by
  intro u hu
  obtain ⟨x, _, rfl⟩ := List.mem_map.1 hu
  rfl
end Go.Proofs.Ytidhcbjhggdncaa
