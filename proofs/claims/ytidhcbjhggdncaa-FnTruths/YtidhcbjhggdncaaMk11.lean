/- Texts put together: TvK TvL -/
import Derived.Test.YtidhcbjhggdncaaMk10
/- TvK -/
namespace Go.Proofs.Ytidhcbjhggdncaa
open Go.RowKit Go.Deep
set_option maxRecDepth 100000

set_option maxHeartbeats 8000000 in
theorem operation_two (x : VW) (op : Int) (h0 : 0 ≤ op) (h5 : op ≤ 5) (b off cap : Nat) (kid : Nat → ET) (w0 w : World) (hb : b < w0.heap.size) (hR : ∀ i, i < 2 → ∀ c u, (kid i).d.cells[c]? = some u → w0.cell? ⟨b, off + i * 8 + c, none⟩ = some u) (hv : ∀ i, i < 2 → KV x w0 (kid i)) (hw : Below w0.heap.size w0 w) :
    Calls Try.prog 38 #[.agg #[.slice x.va x.vn x.vc, .slice x.s.a x.s.n x.s.cap], .int .i64 op, .slice (some ⟨b, off, none⟩) 2 cap] w (ValR w0 (opV op (val x.C (kid 0)) (val x.C (kid 1))) w) := by
  have HT := hid (VR.new w x 45 24)
  have HV0 := hid (fun W (h : Below w.heap.size w W) => hv 0 (by omega) W (bl_trans hw h))
  have HV1 := hid (fun W (h : Below w.heap.size w W) => hv 1 (by omega) W (bl_trans hw h))
  have HR : Hid (∀ i, i < 2 → ∀ W, Below w.heap.size w W → W.rangeAt b (off + i * 8) [.int .i64 (kid i).d.k, .int .i64 (kid i).d.op, .slice (kid i).d.v.a (kid i).d.v.len (kid i).d.v.cap, .int .i64 (kid i).d.t.t.k, .slice (kid i).d.t.t.a (kid i).d.t.t.len (kid i).d.t.t.cap, .int .i64 (kid i).d.t.t.n, .int .i64 (kid i).d.t.t.s, .slice (kid i).d.ka (kid i).d.n (kid i).d.kc]) := fun i hi W h j v hv => ((bl_trans hw h).cell (p := ⟨b, off + i * 8 + j, none⟩) hb).trans (hR i hi j v hv)
  have HW := hid hw
  have HOT := hid (fun (t u : TB) W (h1 : BsF 0 W t.sl) (h2 : BsF 0 W u.sl) (f1 : t.t.fits) (f2 : u.t.fits) => ofTwo_any op t u W h0 h5 h1 h2 f1 f2)
  obtain ⟨o0, ho0⟩ : ∃ o, o = val x.C (kid 0) := ⟨_, rfl⟩
  obtain ⟨o1, ho1⟩ : ∃ o, o = val x.C (kid 1) := ⟨_, rfl⟩
  rw [← ho0] at HV0
  rw [← ho1] at HV1
  rw [← ho0, ← ho1]
  have E : Hid (opV op o0 o1 = o0.bind fun x => o1.bind fun y => twoV op x y) := (show (if op = 6 then _ else if op = 7 then _ else _) = _ by rw [if_neg (by omega), if_neg (by omega)])
  have z6 : (op == 6) = false := by simp; omega
  have z7 : (op == 7) = false := by simp; omega
  clear hv hw hR hb ho0 ho1 h0 h5
  go_in
  go_upto_region 1 with fail
  generalize ((w.alloc _).alloc _) = W1 at *
  go_wp2_with fail
  go_cut [8, 9] from 13 to 73 (fun s8 s9 wx => ∃ (g : Nat) (t : TB) (q : Bool), s8 = .pointer (some ⟨g, 0, none⟩) ∧ s9 = .bool q ∧ Hid (q = o0.isSome) ∧ Hid (VT w0 o0 t) ∧ At4 wx g (.int .i64 t.t.k) (.slice t.t.a t.t.len t.t.cap) (.int .i64 t.t.n) (.int .i64 t.t.s) ∧ W1.heap.size ≤ g ∧ Below W1.heap.size W1 wx)
  case first =>
    refine wqd (fun w' => Below W1.heap.size W1 w') ?_ fun hHeld => ?_
    · exact Below.drew (Below.refl _ _)
    refine ldq 0 46 Try.underlying45 (fun w' h => (HT.out.below h).x.range 0 [.slice x.va x.vn x.vc, .slice x.s.a x.s.n x.s.cap] rfl) ?_
    refine tqB 1 47 ?_
    refine tqB 2 48 ?_
    refine ldq 3 49 Try.underlying29 (fun w' h => HR.out 0 (by omega) w' (HT.out.below h).bl) ?_
    refine wpAnyH_ready (rs := [4, 8]) (by kernel_rfl) (by simp) ?_
    refine AllReadyH.cons rfl (fun K hK => ?_) (AllReadyH.cons rfl (fun K hK => ?_) AllReadyH.nil)
    · go_simp
      refine (HV0.out _ (HT.out.below hHeld).bl).mono ?_
      rintro r w3 ⟨t, rfl, hV, hb3⟩
      have HB3 := hid (hHeld.trans (hb3.mono hHeld.size))
      have HVT := hid hV
      obtain ⟨q, hq⟩ : ∃ q, q = o0.isSome := ⟨_, rfl⟩
      rw [← hq]
      have HQ := hid hq
      clear hHeld hb3 hV hq
      go_wp2_with fail
      refine hK.out _ _ ?_ (fun hHeld => ?_)
      · exact HB3.out
      clear hK K
      try simp only [Act.put, List.setIfInBounds_toArray, List.set_cons_zero, List.set_cons_succ]
      refine tqB 5 45 ?_
      refine tqB 6 51 ?_
      refine tqB 7 52 ?_
      refine rqA 8 fun K hK => ?_
      go_simp
      refine hK.out _ _ ?_ (fun hHeld => ?_)
      · exact bl_alloc HB3.out _
      clear hK K
      try simp only [Act.put, List.setIfInBounds_toArray, List.set_cons_zero, List.set_cons_succ]
      have st : (w3.alloc (.cells #[.int .i64 0, .slice none 0 0, .int .i64 0, .int .i64 0] 24)).there w3.heap.size 0 4 := (OB.new w3 #[.int .i64 0, .slice none 0 0, .int .i64 0, .int .i64 0] 24).there 0 4 (by simp)
      have on : (#[.int .i64 t.t.k, .slice t.t.a t.t.len t.t.cap, .int .i64 t.t.n, .int .i64 t.t.s] : Array Value).all (·.oneCell') = true := all_oneCell_toArray (cs := [.int .i64 t.t.k, .slice t.t.a t.t.len t.t.cap, .int .i64 t.t.n, .int .i64 t.t.s]) (by simp [Value.oneCell'])
      have hrd : ((w3.alloc (.cells #[.int .i64 0, .slice none 0 0, .int .i64 0, .int .i64 0] 24)).setCells w3.heap.size 0 [.int .i64 t.t.k, .slice t.t.a t.t.len t.t.cap, .int .i64 t.t.n, .int .i64 t.t.s]).rangeAt w3.heap.size 0 [.int .i64 t.t.k, .slice t.t.a t.t.len t.t.cap, .int .i64 t.t.n, .int .i64 t.t.s] := World.rangeAt_setCells_same _ _ _ _ st
      have hbf := hid (below_sets (w0 := W1) w3.heap.size HB3.out.size [.int .i64 t.t.k, .slice t.t.a t.t.len t.t.cap, .int .i64 t.t.n, .int .i64 t.t.s] 0 (w3.alloc (.cells #[.int .i64 0, .slice none 0 0, .int .i64 0, .int .i64 0] 24)) (bl_alloc HB3.out _))
      have hsz := hid ((but_sets w3.heap.size [.int .i64 t.t.k, .slice t.t.a t.t.len t.t.cap, .int .i64 t.t.n, .int .i64 t.t.s] 0 (w3.alloc (.cells #[.int .i64 0, .slice none 0 0, .int .i64 0, .int .i64 0] 24))).size)
      have hlt : W1.heap.size ≤ w3.heap.size := HB3.out.size
      refine rqA 9 fun K hK => ?_
      refine step_storeV 24 w3.heap.size 0 #[.int .i64 t.t.k, .slice t.t.a t.t.len t.t.cap, .int .i64 t.t.n, .int .i64 t.t.s] st on ?_
      refine hK.out _ _ ?_ (fun hHeld => ?_)
      · exact hbf.out
      clear hK K st on
      try simp only [Act.put]
      refine tqB 10 9 ?_
      have hgl := hid (show w3.heap.size < ((w3.alloc (.cells #[.int .i64 0, .slice none 0 0, .int .i64 0, .int .i64 0] 24)).setCells w3.heap.size 0 [.int .i64 t.t.k, .slice t.t.a t.t.len t.t.cap, .int .i64 t.t.n, .int .i64 t.t.s]).heap.size by rw [hsz.out]; simp)
      generalize (w3.alloc (.cells #[.int .i64 0, .slice none 0 0, .int .i64 0, .int .i64 0] 24)).setCells w3.heap.size 0 [.int .i64 t.t.k, .slice t.t.a t.t.len t.t.cap, .int .i64 t.t.n, .int .i64 t.t.s] = W4 at *
      clear hHeld
      refine wpAnyH_done (by kernel_rfl) ?_ _
      go_wp2_with fail
      go_meet
      exact ⟨w3.heap.size, t, q, rfl, rfl, HQ, HVT, ⟨hgl.out, hrd 0 _ rfl, hrd 1 _ rfl, hrd 2 _ rfl, hrd 3 _ rfl⟩, hlt, hbf.out⟩
    · go_simp
      refine hK.out _ _ ?_ (fun hHeld => ?_)
      · exact bl_alloc (Below.drew (Below.refl _ _)) _
      clear hK K
      try simp only [Act.put, List.setIfInBounds_toArray, List.set_cons_zero, List.set_cons_succ]
      have HO := hid (OB.new W1.drew #[.int .i64 0, .slice none 0 0, .int .i64 0, .int .i64 0] 24)
      have HB2 : Hid (Below W1.heap.size W1 (W1.drew.alloc (.cells #[.int .i64 0, .slice none 0 0, .int .i64 0, .int .i64 0] 24))) := bl_alloc (Below.drew (Below.refl _ _)) _
      refine rqA 4 fun K hK => ?_
      go_simp
      refine (HV0.out _ (HT.out.below HB2.out).bl).mono ?_
      rintro r w3 ⟨t, rfl, hV, hb3⟩
      have HB3 := hid (HB2.out.trans (hb3.mono HB2.out.size))
      have HO3 := hid (HO.out.below hb3)
      have HVT := hid hV
      obtain ⟨q, hq⟩ : ∃ q, q = o0.isSome := ⟨_, rfl⟩
      rw [← hq]
      have HQ := hid hq
      clear hHeld hb3 hV hq HO HB2
      go_wp2_with fail
      refine hK.out _ _ ?_ (fun hHeld => ?_)
      · exact HB3.out
      clear hK K
      try simp only [Act.put, List.setIfInBounds_toArray, List.set_cons_zero, List.set_cons_succ]
      refine tqB 5 45 ?_
      refine tqB 6 51 ?_
      refine tqB 7 52 ?_
      have st : w3.there W1.heap.size 0 4 := HO3.out.there 0 4 (by simp)
      have on : (#[.int .i64 t.t.k, .slice t.t.a t.t.len t.t.cap, .int .i64 t.t.n, .int .i64 t.t.s] : Array Value).all (·.oneCell') = true := all_oneCell_toArray (cs := [.int .i64 t.t.k, .slice t.t.a t.t.len t.t.cap, .int .i64 t.t.n, .int .i64 t.t.s]) (by simp [Value.oneCell'])
      have hrd : (w3.setCells W1.heap.size 0 [.int .i64 t.t.k, .slice t.t.a t.t.len t.t.cap, .int .i64 t.t.n, .int .i64 t.t.s]).rangeAt W1.heap.size 0 [.int .i64 t.t.k, .slice t.t.a t.t.len t.t.cap, .int .i64 t.t.n, .int .i64 t.t.s] := World.rangeAt_setCells_same _ _ _ _ st
      have hbf := hid (below_sets (w0 := W1) W1.heap.size (Nat.le_refl _) [.int .i64 t.t.k, .slice t.t.a t.t.len t.t.cap, .int .i64 t.t.n, .int .i64 t.t.s] 0 w3 HB3.out)
      have hgl := hid (show W1.heap.size < (w3.setCells W1.heap.size 0 [.int .i64 t.t.k, .slice t.t.a t.t.len t.t.cap, .int .i64 t.t.n, .int .i64 t.t.s]).heap.size by rw [(but_sets _ _ _ _).size]; exact HO3.out.1)
      refine rqA 9 fun K hK => ?_
      refine step_storeV 24 W1.heap.size 0 #[.int .i64 t.t.k, .slice t.t.a t.t.len t.t.cap, .int .i64 t.t.n, .int .i64 t.t.s] st on ?_
      refine hK.out _ _ ?_ (fun hHeld => ?_)
      · exact hbf.out
      clear hK K st on
      try simp only [Act.put]
      refine tqB 10 9 ?_
      generalize w3.setCells W1.heap.size 0 [.int .i64 t.t.k, .slice t.t.a t.t.len t.t.cap, .int .i64 t.t.n, .int .i64 t.t.s] = W4 at *
      clear hHeld
      refine wpAnyH_done (by kernel_rfl) ?_ _
      go_wp2_with fail
      go_meet
      exact ⟨W1.heap.size, t, q, rfl, rfl, HQ, HVT, ⟨hgl.out, hrd 0 _ rfl, hrd 1 _ rfl, hrd 2 _ rfl, hrd 3 _ rfl⟩, Nat.le_refl _, hbf.out⟩
  case rest =>
    obtain ⟨g0, t0, q0, rfl, rfl, HQ0, HVT0, hA0, hg0, hB0⟩ := hcut
    have HT2 := hid (HT.out.below hB0)
    have HA0 := hid hA0
    have HG0 := hid hg0
    clear hA0 hB0 hg0 HV0 HT
    have HT := HT2
    clear HT2
    obtain ⟨W2, hW2⟩ : ∃ W, W = wc := ⟨_, rfl⟩
    subst hW2
    go_wp2_with fail
    go_cut [10, 11] from 13 to 73 (fun s8 s9 wx => ∃ (g : Nat) (t : TB) (q : Bool), s8 = .pointer (some ⟨g, 0, none⟩) ∧ s9 = .bool q ∧ Hid (q = o1.isSome) ∧ Hid (VT w0 o1 t) ∧ At4 wx g (.int .i64 t.t.k) (.slice t.t.a t.t.len t.t.cap) (.int .i64 t.t.n) (.int .i64 t.t.s) ∧ W2.heap.size ≤ g ∧ Below W2.heap.size W2 wx)
    case first =>
      refine wqd (fun w' => Below W2.heap.size W2 w') ?_ fun hHeld => ?_
      · exact Below.drew (Below.refl _ _)
      refine ldq 0 54 Try.underlying45 (fun w' h => (HT.out.below h).x.range 0 [.slice x.va x.vn x.vc, .slice x.s.a x.s.n x.s.cap] rfl) ?_
      refine tqB 1 55 ?_
      refine tqB 2 56 ?_
      refine ldq 3 57 Try.underlying29 (fun w' h => HR.out 1 (by omega) w' (HT.out.below h).bl) ?_
      refine wpAnyH_ready (rs := [4, 8]) (by kernel_rfl) (by simp) ?_
      refine AllReadyH.cons rfl (fun K hK => ?_) (AllReadyH.cons rfl (fun K hK => ?_) AllReadyH.nil)
      · go_simp
        refine (HV1.out _ (HT.out.below hHeld).bl).mono ?_
        rintro r w3 ⟨t, rfl, hV, hb3⟩
        have HB3 := hid (hHeld.trans (hb3.mono hHeld.size))
        have HVT := hid hV
        obtain ⟨q, hq⟩ : ∃ q, q = o1.isSome := ⟨_, rfl⟩
        rw [← hq]
        have HQ := hid hq
        clear hHeld hb3 hV hq
        go_wp2_with fail
        refine hK.out _ _ ?_ (fun hHeld => ?_)
        · exact HB3.out
        clear hK K
        try simp only [Act.put, List.setIfInBounds_toArray, List.set_cons_zero, List.set_cons_succ]
        refine tqB 5 53 ?_
        refine tqB 6 59 ?_
        refine tqB 7 60 ?_
        refine rqA 8 fun K hK => ?_
        go_simp
        refine hK.out _ _ ?_ (fun hHeld => ?_)
        · exact bl_alloc HB3.out _
        clear hK K
        try simp only [Act.put, List.setIfInBounds_toArray, List.set_cons_zero, List.set_cons_succ]
        have st : (w3.alloc (.cells #[.int .i64 0, .slice none 0 0, .int .i64 0, .int .i64 0] 24)).there w3.heap.size 0 4 := (OB.new w3 #[.int .i64 0, .slice none 0 0, .int .i64 0, .int .i64 0] 24).there 0 4 (by simp)
        have on : (#[.int .i64 t.t.k, .slice t.t.a t.t.len t.t.cap, .int .i64 t.t.n, .int .i64 t.t.s] : Array Value).all (·.oneCell') = true := all_oneCell_toArray (cs := [.int .i64 t.t.k, .slice t.t.a t.t.len t.t.cap, .int .i64 t.t.n, .int .i64 t.t.s]) (by simp [Value.oneCell'])
        have hrd : ((w3.alloc (.cells #[.int .i64 0, .slice none 0 0, .int .i64 0, .int .i64 0] 24)).setCells w3.heap.size 0 [.int .i64 t.t.k, .slice t.t.a t.t.len t.t.cap, .int .i64 t.t.n, .int .i64 t.t.s]).rangeAt w3.heap.size 0 [.int .i64 t.t.k, .slice t.t.a t.t.len t.t.cap, .int .i64 t.t.n, .int .i64 t.t.s] := World.rangeAt_setCells_same _ _ _ _ st
        have hbf := hid (below_sets (w0 := W2) w3.heap.size HB3.out.size [.int .i64 t.t.k, .slice t.t.a t.t.len t.t.cap, .int .i64 t.t.n, .int .i64 t.t.s] 0 (w3.alloc (.cells #[.int .i64 0, .slice none 0 0, .int .i64 0, .int .i64 0] 24)) (bl_alloc HB3.out _))
        have hsz := hid ((but_sets w3.heap.size [.int .i64 t.t.k, .slice t.t.a t.t.len t.t.cap, .int .i64 t.t.n, .int .i64 t.t.s] 0 (w3.alloc (.cells #[.int .i64 0, .slice none 0 0, .int .i64 0, .int .i64 0] 24))).size)
        have hlt : W2.heap.size ≤ w3.heap.size := HB3.out.size
        refine rqA 9 fun K hK => ?_
        refine step_storeV 24 w3.heap.size 0 #[.int .i64 t.t.k, .slice t.t.a t.t.len t.t.cap, .int .i64 t.t.n, .int .i64 t.t.s] st on ?_
        refine hK.out _ _ ?_ (fun hHeld => ?_)
        · exact hbf.out
        clear hK K st on
        try simp only [Act.put]
        refine tqB 10 11 ?_
        have hgl := hid (show w3.heap.size < ((w3.alloc (.cells #[.int .i64 0, .slice none 0 0, .int .i64 0, .int .i64 0] 24)).setCells w3.heap.size 0 [.int .i64 t.t.k, .slice t.t.a t.t.len t.t.cap, .int .i64 t.t.n, .int .i64 t.t.s]).heap.size by rw [hsz.out]; simp)
        generalize (w3.alloc (.cells #[.int .i64 0, .slice none 0 0, .int .i64 0, .int .i64 0] 24)).setCells w3.heap.size 0 [.int .i64 t.t.k, .slice t.t.a t.t.len t.t.cap, .int .i64 t.t.n, .int .i64 t.t.s] = W4 at *
        clear hHeld
        refine wpAnyH_done (by kernel_rfl) ?_ _
        go_wp2_with fail
        go_meet
        exact ⟨w3.heap.size, t, q, rfl, rfl, HQ, HVT, ⟨hgl.out, hrd 0 _ rfl, hrd 1 _ rfl, hrd 2 _ rfl, hrd 3 _ rfl⟩, hlt, hbf.out⟩
      · go_simp
        refine hK.out _ _ ?_ (fun hHeld => ?_)
        · exact bl_alloc (Below.drew (Below.refl _ _)) _
        clear hK K
        try simp only [Act.put, List.setIfInBounds_toArray, List.set_cons_zero, List.set_cons_succ]
        have HO := hid (OB.new W2.drew #[.int .i64 0, .slice none 0 0, .int .i64 0, .int .i64 0] 24)
        have HB2 : Hid (Below W2.heap.size W2 (W2.drew.alloc (.cells #[.int .i64 0, .slice none 0 0, .int .i64 0, .int .i64 0] 24))) := bl_alloc (Below.drew (Below.refl _ _)) _
        refine rqA 4 fun K hK => ?_
        go_simp
        refine (HV1.out _ (HT.out.below HB2.out).bl).mono ?_
        rintro r w3 ⟨t, rfl, hV, hb3⟩
        have HB3 := hid (HB2.out.trans (hb3.mono HB2.out.size))
        have HO3 := hid (HO.out.below hb3)
        have HVT := hid hV
        obtain ⟨q, hq⟩ : ∃ q, q = o1.isSome := ⟨_, rfl⟩
        rw [← hq]
        have HQ := hid hq
        clear hHeld hb3 hV hq HO HB2
        go_wp2_with fail
        refine hK.out _ _ ?_ (fun hHeld => ?_)
        · exact HB3.out
        clear hK K
        try simp only [Act.put, List.setIfInBounds_toArray, List.set_cons_zero, List.set_cons_succ]
        refine tqB 5 53 ?_
        refine tqB 6 59 ?_
        refine tqB 7 60 ?_
        have st : w3.there W2.heap.size 0 4 := HO3.out.there 0 4 (by simp)
        have on : (#[.int .i64 t.t.k, .slice t.t.a t.t.len t.t.cap, .int .i64 t.t.n, .int .i64 t.t.s] : Array Value).all (·.oneCell') = true := all_oneCell_toArray (cs := [.int .i64 t.t.k, .slice t.t.a t.t.len t.t.cap, .int .i64 t.t.n, .int .i64 t.t.s]) (by simp [Value.oneCell'])
        have hrd : (w3.setCells W2.heap.size 0 [.int .i64 t.t.k, .slice t.t.a t.t.len t.t.cap, .int .i64 t.t.n, .int .i64 t.t.s]).rangeAt W2.heap.size 0 [.int .i64 t.t.k, .slice t.t.a t.t.len t.t.cap, .int .i64 t.t.n, .int .i64 t.t.s] := World.rangeAt_setCells_same _ _ _ _ st
        have hbf := hid (below_sets (w0 := W2) W2.heap.size (Nat.le_refl _) [.int .i64 t.t.k, .slice t.t.a t.t.len t.t.cap, .int .i64 t.t.n, .int .i64 t.t.s] 0 w3 HB3.out)
        have hgl := hid (show W2.heap.size < (w3.setCells W2.heap.size 0 [.int .i64 t.t.k, .slice t.t.a t.t.len t.t.cap, .int .i64 t.t.n, .int .i64 t.t.s]).heap.size by rw [(but_sets _ _ _ _).size]; exact HO3.out.1)
        refine rqA 9 fun K hK => ?_
        refine step_storeV 24 W2.heap.size 0 #[.int .i64 t.t.k, .slice t.t.a t.t.len t.t.cap, .int .i64 t.t.n, .int .i64 t.t.s] st on ?_
        refine hK.out _ _ ?_ (fun hHeld => ?_)
        · exact hbf.out
        clear hK K st on
        try simp only [Act.put]
        refine tqB 10 11 ?_
        generalize w3.setCells W2.heap.size 0 [.int .i64 t.t.k, .slice t.t.a t.t.len t.t.cap, .int .i64 t.t.n, .int .i64 t.t.s] = W4 at *
        clear hHeld
        refine wpAnyH_done (by kernel_rfl) ?_ _
        go_wp2_with fail
        go_meet
        exact ⟨W2.heap.size, t, q, rfl, rfl, HQ, HVT, ⟨hgl.out, hrd 0 _ rfl, hrd 1 _ rfl, hrd 2 _ rfl, hrd 3 _ rfl⟩, Nat.le_refl _, hbf.out⟩
    case rest =>
      obtain ⟨g1, t1, q1, rfl, rfl, HQ1, HVT1, hA1, hg1, hB1⟩ := hcut
      have HT3 := hid (HT.out.below hB1)
      have HA3 := hid (HA0.out.below hB1)
      have HA1 := hid hA1
      clear hA1 hB1 hg1 HV1 HT HA0 HR
      obtain ⟨W3, hW3⟩ : ∃ W, W = wc := ⟨_, rfl⟩
      subst hW3
      have hw := HT3.out.bl
      cases o0 with
      | none =>
        obtain rfl : q0 = false := HQ0.out
        clear HA1 HA3
        obtain ⟨⟨r0, r1, r2, r3, r4⟩, f0, f1, f2, f3⟩ := id HT3.out.r
        go_wp2
        try simp only [Exit.inBlock, Exit.then]
        refine bodyPost_ret (v := .tuple #[.agg #[.int .i64 0, .slice none 0 0, .int .i64 0, .int .i64 0], .bool false]) (by simp [results, Try.results38, go_sem, *]) rfl ⟨tB0 0 0 0, by rw [E.out]; rfl, by rw [E.out]; exact VT.no, ?_⟩
        repeat (first | with_reducible exact hw | with_reducible refine bl_set ?_ (by dsimp only; omega) _)
      | some d0 =>
        obtain rfl : q0 = true := HQ0.out
        cases o1 with
        | none =>
          obtain rfl : q1 = false := HQ1.out
          clear HA1 HA3
          obtain ⟨⟨r0, r1, r2, r3, r4⟩, f0, f1, f2, f3⟩ := id HT3.out.r
          go_wp2
          try simp only [Exit.inBlock, Exit.then]
          refine bodyPost_ret (v := .tuple #[.agg #[.int .i64 0, .slice none 0 0, .int .i64 0, .int .i64 0], .bool false]) (by simp [results, Try.results38, go_sem, *]) rfl ⟨tB0 0 0 0, by rw [E.out]; rfl, by rw [E.out]; exact VT.no, ?_⟩
          repeat (first | with_reducible exact hw | with_reducible refine bl_set ?_ (by dsimp only; omega) _)
        | some d1 =>
          obtain rfl : q1 = true := HQ1.out
          obtain ⟨_, x0, x1, x2, x3⟩ := HA3.out
          obtain ⟨_, y0, y1, y2, y3⟩ := HA1.out
          have hup : Upper 0 w0 W3 := Upper.of_below (bl_trans HW.out hw)
          have HC := hid (HOT.out t0 t1 W3 (HVT0.out.bs.upper hup) (HVT1.out.bs.upper hup) HVT0.out.ft HVT1.out.ft)
          have hd0 : t0.td = d0 := HVT0.out.td
          have hd1 : t1.td = d1 := HVT1.out.td
          rw [hd0, hd1] at HC
          obtain ⟨o2, ho2⟩ : ∃ o, o = twoV op d0 d1 := ⟨_, rfl⟩
          have E2 : Hid (opV op (some d0) (some d1) = o2) := (show _ = _ by rw [E.out, ho2]; rfl)
          have HM : Hid (∀ t, VT W3 o2 t → VT w0 o2 t) := fun t h => VT.move (by rw [ho2]; exact twoV_bs _ _ _) h
          rw [← ho2] at HC
          clear hup hd0 hd1 ho2 HOT hw
          go_wp2_with fail
          refine HC.out.mono ?_
          rintro r w4 ⟨t, rfl, hV, hb4⟩
          have HT4 := hid (HT3.out.below hb4)
          have HVT := hid (HM.out t hV)
          have hw := HT4.out.bl
          obtain ⟨q, hq⟩ : ∃ q, q = o2.isSome := ⟨_, rfl⟩
          rw [← hq]
          have HQ := hid hq
          clear hb4 HT3 HC hV hq HM HA1 HA3 x0 x1 x2 x3 y0 y1 y2 y3
          obtain ⟨⟨r0, r1, r2, r3, r4⟩, f0, f1, f2, f3⟩ := id HT4.out.r
          go_wp2
          try simp only [Exit.inBlock, Exit.then]
          refine bodyPost_ret (v := .tuple #[.agg #[.int .i64 t.t.k, .slice t.t.a t.t.len t.t.cap, .int .i64 t.t.n, .int .i64 t.t.s], .bool q]) (by simp [results, Try.results38, go_sem, *]) rfl ⟨t, by rw [E2.out, HQ.out], by rw [E2.out]; exact HVT.out, ?_⟩
          repeat (first | with_reducible exact hw | with_reducible refine bl_set ?_ (by dsimp only; omega) _)
theorem operation_of (x : VW) (op : Int) (h0 : 0 ≤ op) (h7 : op ≤ 7) (b off cap : Nat) (kid : Nat → ET) (w0 w : World) (hb : b < w0.heap.size) (hR : ∀ i, i < 2 → ∀ c u, (kid i).d.cells[c]? = some u → w0.cell? ⟨b, off + i * 8 + c, none⟩ = some u) (hv : ∀ i, i < 2 → KV x w0 (kid i)) (hw : Below w0.heap.size w0 w) :
    Calls Try.prog 38 #[.agg #[.slice x.va x.vn x.vc, .slice x.s.a x.s.n x.s.cap], .int .i64 op, .slice (some ⟨b, off, none⟩) 2 cap] w (ValR w0 (opV op (val x.C (kid 0)) (val x.C (kid 1))) w) := by
  by_cases h6 : op = 6
  · subst h6
    exact operation_and x b off cap kid w0 w hb hR hv hw
  by_cases h7' : op = 7
  · subst h7'
    exact operation_or x b off cap kid w0 w hb hR hv hw
  · exact operation_two x op h0 (by omega) b off cap kid w0 w hb hR hv hw
end Go.Proofs.Ytidhcbjhggdncaa

/- TvL -/
namespace Go.Proofs.Ytidhcbjhggdncaa
open Go.RowKit Go.Deep
set_option maxRecDepth 100000

/-- Within value. -/
structure VX (w W : World) (x : VW) (d : EN) : Prop where
  bl : Below w.heap.size w W
  x : Box W w.heap.size [.slice x.va x.vn x.vc, .slice x.s.a x.s.n x.s.cap]
  e : Box W (w.heap.size + 1) [.int .i64 d.k, .int .i64 d.op, .slice d.v.a d.v.len d.v.cap, .int .i64 d.t.t.k, .slice d.t.t.a d.t.t.len d.t.t.cap, .int .i64 d.t.t.n, .int .i64 d.t.t.s, .slice d.ka d.n d.kc]
  r : Own4 W (w.heap.size + 1 + 1) (.int .i64 0) (.slice none 0 0) (.int .i64 0) (.int .i64 0)
theorem VX.below {w W W' : World} {x : VW} {d : EN} (h : VX w W x d) (hb : Below W.heap.size W W') : VX w W' x d := ⟨bl_trans h.bl hb, h.x.below hb, h.e.below hb, h.r.below hb⟩
theorem VX.new (w : World) (x : VW) (d : EN) (t u v : TypeId) : VX w (((w.alloc (.cells #[.slice x.va x.vn x.vc, .slice x.s.a x.s.n x.s.cap] t)).alloc (.cells #[.int .i64 d.k, .int .i64 d.op, .slice d.v.a d.v.len d.v.cap, .int .i64 d.t.t.k, .slice d.t.t.a d.t.t.len d.t.t.cap, .int .i64 d.t.t.n, .int .i64 d.t.t.s, .slice d.ka d.n d.kc] u)).alloc (.cells #[.int .i64 0, .slice none 0 0, .int .i64 0, .int .i64 0] v)) x d :=
  ⟨bl_alloc (bl_alloc (bl_a _) _) _, ((Box.new w #[.slice x.va x.vn x.vc, .slice x.s.a x.s.n x.s.cap] t (0, 0)).below (bl_a _)).below (bl_a _), (show Box _ _ _ by have h := (Box.new (w.alloc (.cells #[.slice x.va x.vn x.vc, .slice x.s.a x.s.n x.s.cap] t)) #[.int .i64 d.k, .int .i64 d.op, .slice d.v.a d.v.len d.v.cap, .int .i64 d.t.t.k, .slice d.t.t.a d.t.t.len d.t.t.cap, .int .i64 d.t.t.n, .int .i64 d.t.t.s, .slice d.ka d.n d.kc] u (0, 0)).below (bl_a (.cells #[.int .i64 0, .slice none 0 0, .int .i64 0, .int .i64 0] v)); simpa using h), Own4.at ((w.alloc _).alloc _) (w.heap.size + 1 + 1) _ _ _ _ _ (by simp)⟩
theorem VX.sets {w W : World} {x : VW} {d : EN} (h : VX w W x d) (vs : List Value) : Below w.heap.size w (W.setCells (w.heap.size + 1 + 1) 0 vs) ∧ Box (W.setCells (w.heap.size + 1 + 1) 0 vs) w.heap.size [.slice x.va x.vn x.vc, .slice x.s.a x.s.n x.s.cap] ∧ Box (W.setCells (w.heap.size + 1 + 1) 0 vs) (w.heap.size + 1) [.int .i64 d.k, .int .i64 d.op, .slice d.v.a d.v.len d.v.cap, .int .i64 d.t.t.k, .slice d.t.t.a d.t.t.len d.t.t.cap, .int .i64 d.t.t.n, .int .i64 d.t.t.s, .slice d.ka d.n d.kc] :=
  ⟨below_sets (w0 := w) _ (by omega) _ _ _ h.bl, h.x.upper (but_sets _ _ _ _) (by omega), h.e.upper (but_sets _ _ _ _) (by omega)⟩
set_option maxHeartbeats 4000000 in
theorem value_term (x : VW) (d : EN) (w0 w : World) (hk : d.k = 1) (ht : BsF 0 w0 d.t.sl) (hf : d.t.t.fits) (_hw : Below w0.heap.size w0 w) : Calls Try.prog 13 #[.agg #[.slice x.va x.vn x.vc, .slice x.s.a x.s.n x.s.cap], .agg #[.int .i64 d.k, .int .i64 d.op, .slice d.v.a d.v.len d.v.cap, .int .i64 d.t.t.k, .slice d.t.t.a d.t.t.len d.t.t.cap, .int .i64 d.t.t.n, .int .i64 d.t.t.s, .slice d.ka d.n d.kc]] w (ValR w0 (some d.t.td) w) := by
  have HT := hid (VX.new w x d 45 29 24)
  have z0 : (d.k == 0) = false := by simp [hk]
  have z1 : (d.k == 1) = true := by simp [hk]
  have z3 : (d.k == 3) = false := by simp [hk]
  have z4 : (d.k == 4) = false := by simp [hk]
  have z5 : (d.k == 5) = false := by simp [hk]
  have z6 : (d.k == 6) = false := by simp [hk]
  have z7 : (d.k == 7) = false := by simp [hk]
  have HVT : Hid (VT w0 (some d.t.td) d.t) := ⟨ht, hf, rfl⟩
  clear hk ht hf
  go_in
  go_upto_region 1 with fail
  generalize (((w.alloc _).alloc _).alloc _) = W1 at *
  have e0 := HT.out.e.2 0 _ rfl
  have e3 := HT.out.e.2 3 _ rfl
  have e4 := HT.out.e.2 4 _ rfl
  have e5 := HT.out.e.2 5 _ rfl
  have e6 := HT.out.e.2 6 _ rfl
  have hw := HT.out.bl
  obtain ⟨⟨r0, r1, r2, r3, r4⟩, f0, f1, f2, f3⟩ := id HT.out.r
  go_wp2
  try simp only [Exit.inBlock, Exit.then]
  refine bodyPost_ret (v := .tuple #[.agg #[.int .i64 d.t.t.k, .slice d.t.t.a d.t.t.len d.t.t.cap, .int .i64 d.t.t.n, .int .i64 d.t.t.s], .bool true]) (by simp [results, Try.results13, go_sem, *]) rfl ⟨d.t, rfl, HVT.out, ?_⟩
  repeat (first | with_reducible exact hw | with_reducible refine bl_set ?_ (by dsimp only; omega) _)
set_option maxHeartbeats 4000000 in
theorem value_bound (x : VW) (d : EN) (w0 w : World) (hk : d.k = 4) (hx : x.lies 0 w0) (hs : solOk x.s x.vn) (ht : BsF 0 w0 d.v) (hw : Below w0.heap.size w0 w) : Calls Try.prog 13 #[.agg #[.slice x.va x.vn x.vc, .slice x.s.a x.s.n x.s.cap], .agg #[.int .i64 d.k, .int .i64 d.op, .slice d.v.a d.v.len d.v.cap, .int .i64 d.t.t.k, .slice d.t.t.a d.t.t.len d.t.t.cap, .int .i64 d.t.t.n, .int .i64 d.t.t.s, .slice d.ka d.n d.kc]] w (ValR w0 (ans (ansB (x.C d.v.b).isSome)) w) := by
  have HT := hid (VX.new w x d 45 29 24)
  have z0 : (d.k == 0) = false := by simp [hk]
  have z1 : (d.k == 1) = false := by simp [hk]
  have z3 : (d.k == 3) = false := by simp [hk]
  have z4 : (d.k == 4) = true := by simp [hk]
  have z5 : (d.k == 5) = false := by simp [hk]
  have z6 : (d.k == 6) = false := by simp [hk]
  have z7 : (d.k == 7) = false := by simp [hk]
  have HC := hid (fun W (h : Below w.heap.size w W) => cell_any x d.v w0 W hx hs ht (bl_trans hw h))
  obtain ⟨b, hbb⟩ : ∃ b, b = (x.C d.v.b).isSome := ⟨_, rfl⟩
  have HBB := hid hbb
  rw [← hbb]
  have HAN := hid (fun W => answer_any b W)
  have HTT := hid (fun W => truthTerm_any (ansB b) w0 W (ansB_r _))
  clear hk hx hs ht hw hbb
  go_in
  go_upto_region 1 with fail
  generalize (((w.alloc _).alloc _).alloc _) = W1 at *
  have e0 := HT.out.e.2 0 _ rfl
  have e2 := HT.out.e.2 2 _ rfl
  have lx : W1.rangeAt w.heap.size 0 [.slice x.va x.vn x.vc, .slice x.s.a x.s.n x.s.cap] := HT.out.x.range 0 _ rfl
  go_wp2_with (with_reducible refine wpv_at ?_; refine wpList_load_mid rfl 45 _ rfl _ _ rfl [.slice x.va x.vn x.vc, .slice x.s.a x.s.n x.s.cap] _ lx Try.underlying45 rfl (by kernel_rfl) ?_; try simp only [Act.put, List.setIfInBounds_toArray, List.set_cons_zero, List.set_cons_succ])
  refine (HC.out _ HT.out.bl).mono ?_
  rintro r w2 ⟨t0, rfl, hV, hb2⟩
  have HT1 := hid (HT.out.below hb2)
  rw [← HBB.out]
  have hfd : ∀ w : World, (Instr.field 56 (.agg #[.bool b, .int .i64 t0.t.k, .slice t0.t.a t0.t.len t0.t.cap, .int .i64 t0.t.n, .int .i64 t0.t.s]) 0).run Try.prog w = .ok (.bool b) w := fun _ => by kernel_rfl
  clear hV hb2 HT HC e0 e2 lx
  go_wp2_with fail
  refine (HAN.out _).mono ?_
  rintro r w3 ⟨rfl, rfl⟩
  go_wp2_with fail
  refine (HTT.out _).mono ?_
  rintro r w4 ⟨t, rfl, hV, hb2⟩
  have HT2 := hid (HT1.out.below hb2)
  have HVT := hid hV
  obtain ⟨q, hq⟩ : ∃ q, q = (ans (ansB b)).isSome := ⟨_, rfl⟩
  rw [← hq]
  have HQ := hid hq
  have hw := HT2.out.bl
  clear hV hb2 hq HT1 HAN HTT
  obtain ⟨⟨r0, r1, r2, r3, r4⟩, f0, f1, f2, f3⟩ := id HT2.out.r
  go_wp2
  try simp only [Exit.inBlock, Exit.then]
  refine bodyPost_ret (v := .tuple #[.agg #[.int .i64 t.t.k, .slice t.t.a t.t.len t.t.cap, .int .i64 t.t.n, .int .i64 t.t.s], .bool q]) (by simp [results, Try.results13, go_sem, *]) rfl ⟨t, by rw [HQ.out], HVT.out, ?_⟩
  repeat (first | with_reducible exact hw | with_reducible refine bl_set ?_ (by dsimp only; omega) _)
set_option maxHeartbeats 4000000 in
theorem value_if (x : VW) (d : EN) (w0 w : World) (hk : d.k = 5) (b off : Nat) (hn : d.n = 3) (ha : d.ka = some ⟨b, off, none⟩) (hb : b < w0.heap.size) (kid : Nat → ET) (hR : ∀ i, i < 3 → ∀ c u, (kid i).d.cells[c]? = some u → w0.cell? ⟨b, off + i * 8 + c, none⟩ = some u) (hv : ∀ i, i < 3 → KV x w0 (kid i)) (hw : Below w0.heap.size w0 w) : Calls Try.prog 13 #[.agg #[.slice x.va x.vn x.vc, .slice x.s.a x.s.n x.s.cap], .agg #[.int .i64 d.k, .int .i64 d.op, .slice d.v.a d.v.len d.v.cap, .int .i64 d.t.t.k, .slice d.t.t.a d.t.t.len d.t.t.cap, .int .i64 d.t.t.n, .int .i64 d.t.t.s, .slice d.ka d.n d.kc]] w (ValR w0 (ifV (tru (val x.C (kid 0))) (val x.C (kid 1)) (val x.C (kid 2))) w) := by
  have HT := hid (VX.new w x d 45 29 24)
  have z0 : (d.k == 0) = false := by simp [hk]
  have z1 : (d.k == 1) = false := by simp [hk]
  have z3 : (d.k == 3) = false := by simp [hk]
  have z4 : (d.k == 4) = false := by simp [hk]
  have z5 : (d.k == 5) = true := by simp [hk]
  have z6 : (d.k == 6) = false := by simp [hk]
  have z7 : (d.k == 7) = false := by simp [hk]
  have HC := hid (fun W (h : Below w.heap.size w W) => choice_of x b off d.kc kid w0 W hb hR hv (bl_trans hw h))
  obtain ⟨o, ho⟩ : ∃ o, o = ifV (tru (val x.C (kid 0))) (val x.C (kid 1)) (val x.C (kid 2)) := ⟨_, rfl⟩
  rw [← ho] at HC ⊢
  have HN := hid hn
  have HA := hid ha
  clear hk hv hR hb hw ho hn ha
  go_in
  go_upto_region 1 with fail
  generalize (((w.alloc _).alloc _).alloc _) = W1 at *
  have e0 := HT.out.e.2 0 _ rfl
  have e7 : W1.cell? ⟨w.heap.size + 1, 7, none⟩ = some (.slice (some ⟨b, off, none⟩) 3 d.kc) := by rw [← HN.out, ← HA.out]; exact HT.out.e.2 7 _ rfl
  have lx : W1.rangeAt w.heap.size 0 [.slice x.va x.vn x.vc, .slice x.s.a x.s.n x.s.cap] := HT.out.x.range 0 _ rfl
  go_wp2_with (with_reducible refine wpv_at ?_; refine wpList_load_mid rfl 45 _ rfl _ _ rfl [.slice x.va x.vn x.vc, .slice x.s.a x.s.n x.s.cap] _ lx Try.underlying45 rfl (by kernel_rfl) ?_; try simp only [Act.put, List.setIfInBounds_toArray, List.set_cons_zero, List.set_cons_succ])
  refine (HC.out _ HT.out.bl).mono ?_
  rintro r w2 ⟨t, rfl, hV, hb2⟩
  have HT2 := hid (HT.out.below hb2)
  have HVT := hid hV
  obtain ⟨q, hq⟩ : ∃ q, q = (o).isSome := ⟨_, rfl⟩
  rw [← hq]
  have HQ := hid hq
  have hw := HT2.out.bl
  clear hV hb2 hq HT HC e0 e7 lx
  obtain ⟨⟨r0, r1, r2, r3, r4⟩, f0, f1, f2, f3⟩ := id HT2.out.r
  go_wp2
  try simp only [Exit.inBlock, Exit.then]
  refine bodyPost_ret (v := .tuple #[.agg #[.int .i64 t.t.k, .slice t.t.a t.t.len t.t.cap, .int .i64 t.t.n, .int .i64 t.t.s], .bool q]) (by simp [results, Try.results13, go_sem, *]) rfl ⟨t, by rw [HQ.out], HVT.out, ?_⟩
  repeat (first | with_reducible exact hw | with_reducible refine bl_set ?_ (by dsimp only; omega) _)
set_option maxHeartbeats 4000000 in
theorem value_coal (x : VW) (d : EN) (w0 w : World) (hk : d.k = 6) (kid : Nat → ET) (hn : d.n ≤ 1048576) (hR : KRow 0 w0 8 d.ka d.n (fun i => (kid i).d.cells)) (hv : ∀ i, i < d.n → KV x w0 (kid i)) (hw : Below w0.heap.size w0 w) : Calls Try.prog 13 #[.agg #[.slice x.va x.vn x.vc, .slice x.s.a x.s.n x.s.cap], .agg #[.int .i64 d.k, .int .i64 d.op, .slice d.v.a d.v.len d.v.cap, .int .i64 d.t.t.k, .slice d.t.t.a d.t.t.len d.t.t.cap, .int .i64 d.t.t.n, .int .i64 d.t.t.s, .slice d.ka d.n d.kc]] w (ValR w0 (firstV d.n (fun i => val x.C (kid i))) w) := by
  have HT := hid (VX.new w x d 45 29 24)
  have z0 : (d.k == 0) = false := by simp [hk]
  have z1 : (d.k == 1) = false := by simp [hk]
  have z3 : (d.k == 3) = false := by simp [hk]
  have z4 : (d.k == 4) = false := by simp [hk]
  have z5 : (d.k == 5) = false := by simp [hk]
  have z6 : (d.k == 6) = true := by simp [hk]
  have z7 : (d.k == 7) = false := by simp [hk]
  have HC := hid (fun W (h : Below w.heap.size w W) => firstValue_of x d.ka d.kc d.n kid w0 W hn hR hv (bl_trans hw h))
  obtain ⟨o, ho⟩ : ∃ o, o = firstV d.n (fun i => val x.C (kid i)) := ⟨_, rfl⟩
  rw [← ho] at HC ⊢
  clear hk hv hR hw ho hn
  go_in
  go_upto_region 1 with fail
  generalize (((w.alloc _).alloc _).alloc _) = W1 at *
  have e0 := HT.out.e.2 0 _ rfl
  have e7 := HT.out.e.2 7 _ rfl
  have lx : W1.rangeAt w.heap.size 0 [.slice x.va x.vn x.vc, .slice x.s.a x.s.n x.s.cap] := HT.out.x.range 0 _ rfl
  go_wp2_with (with_reducible refine wpv_at ?_; refine wpList_load_mid rfl 45 _ rfl _ _ rfl [.slice x.va x.vn x.vc, .slice x.s.a x.s.n x.s.cap] _ lx Try.underlying45 rfl (by kernel_rfl) ?_; try simp only [Act.put, List.setIfInBounds_toArray, List.set_cons_zero, List.set_cons_succ])
  refine (HC.out _ HT.out.bl).mono ?_
  rintro r w2 ⟨t, rfl, hV, hb2⟩
  have HT2 := hid (HT.out.below hb2)
  have HVT := hid hV
  obtain ⟨q, hq⟩ : ∃ q, q = (o).isSome := ⟨_, rfl⟩
  rw [← hq]
  have HQ := hid hq
  have hw := HT2.out.bl
  clear hV hb2 hq HT HC e0 e7 lx
  obtain ⟨⟨r0, r1, r2, r3, r4⟩, f0, f1, f2, f3⟩ := id HT2.out.r
  go_wp2
  try simp only [Exit.inBlock, Exit.then]
  refine bodyPost_ret (v := .tuple #[.agg #[.int .i64 t.t.k, .slice t.t.a t.t.len t.t.cap, .int .i64 t.t.n, .int .i64 t.t.s], .bool q]) (by simp [results, Try.results13, go_sem, *]) rfl ⟨t, by rw [HQ.out], HVT.out, ?_⟩
  repeat (first | with_reducible exact hw | with_reducible refine bl_set ?_ (by dsimp only; omega) _)
set_option maxHeartbeats 4000000 in
theorem value_op (x : VW) (d : EN) (w0 w : World) (hk : d.k = 2) (h0 : 0 ≤ d.op) (h7 : d.op ≤ 7) (b off : Nat) (hn : d.n = 2) (ha : d.ka = some ⟨b, off, none⟩) (hb : b < w0.heap.size) (kid : Nat → ET) (hR : ∀ i, i < 2 → ∀ c u, (kid i).d.cells[c]? = some u → w0.cell? ⟨b, off + i * 8 + c, none⟩ = some u) (hv : ∀ i, i < 2 → KV x w0 (kid i)) (hw : Below w0.heap.size w0 w) : Calls Try.prog 13 #[.agg #[.slice x.va x.vn x.vc, .slice x.s.a x.s.n x.s.cap], .agg #[.int .i64 d.k, .int .i64 d.op, .slice d.v.a d.v.len d.v.cap, .int .i64 d.t.t.k, .slice d.t.t.a d.t.t.len d.t.t.cap, .int .i64 d.t.t.n, .int .i64 d.t.t.s, .slice d.ka d.n d.kc]] w (ValR w0 (opV d.op (val x.C (kid 0)) (val x.C (kid 1))) w) := by
  have HT := hid (VX.new w x d 45 29 24)
  have z0 : (d.k == 0) = false := by simp [hk]
  have z1 : (d.k == 1) = false := by simp [hk]
  have z3 : (d.k == 3) = false := by simp [hk]
  have z4 : (d.k == 4) = false := by simp [hk]
  have z5 : (d.k == 5) = false := by simp [hk]
  have z6 : (d.k == 6) = false := by simp [hk]
  have z7 : (d.k == 7) = false := by simp [hk]
  have HC := hid (fun W (h : Below w.heap.size w W) => operation_of x d.op h0 h7 b off d.kc kid w0 W hb hR hv (bl_trans hw h))
  obtain ⟨o, ho⟩ : ∃ o, o = opV d.op (val x.C (kid 0)) (val x.C (kid 1)) := ⟨_, rfl⟩
  rw [← ho] at HC ⊢
  have HN := hid hn
  have HA := hid ha
  clear hk hv hR hb hw ho hn ha h0 h7
  go_in
  go_upto_region 1 with fail
  generalize (((w.alloc _).alloc _).alloc _) = W1 at *
  have e0 := HT.out.e.2 0 _ rfl
  have e1 := HT.out.e.2 1 _ rfl
  have e7 : W1.cell? ⟨w.heap.size + 1, 7, none⟩ = some (.slice (some ⟨b, off, none⟩) 2 d.kc) := by rw [← HN.out, ← HA.out]; exact HT.out.e.2 7 _ rfl
  have lx : W1.rangeAt w.heap.size 0 [.slice x.va x.vn x.vc, .slice x.s.a x.s.n x.s.cap] := HT.out.x.range 0 _ rfl
  go_wp2_with (with_reducible refine wpv_at ?_; refine wpList_load_mid rfl 45 _ rfl _ _ rfl [.slice x.va x.vn x.vc, .slice x.s.a x.s.n x.s.cap] _ lx Try.underlying45 rfl (by kernel_rfl) ?_; try simp only [Act.put, List.setIfInBounds_toArray, List.set_cons_zero, List.set_cons_succ])
  refine (HC.out _ HT.out.bl).mono ?_
  rintro r w2 ⟨t, rfl, hV, hb2⟩
  have HT2 := hid (HT.out.below hb2)
  have HVT := hid hV
  obtain ⟨q, hq⟩ : ∃ q, q = (o).isSome := ⟨_, rfl⟩
  rw [← hq]
  have HQ := hid hq
  have hw := HT2.out.bl
  clear hV hb2 hq HT HC e0 e1 e7 lx
  obtain ⟨⟨r0, r1, r2, r3, r4⟩, f0, f1, f2, f3⟩ := id HT2.out.r
  go_wp2
  try simp only [Exit.inBlock, Exit.then]
  refine bodyPost_ret (v := .tuple #[.agg #[.int .i64 t.t.k, .slice t.t.a t.t.len t.t.cap, .int .i64 t.t.n, .int .i64 t.t.s], .bool q]) (by simp [results, Try.results13, go_sem, *]) rfl ⟨t, by rw [HQ.out], HVT.out, ?_⟩
  repeat (first | with_reducible exact hw | with_reducible refine bl_set ?_ (by dsimp only; omega) _)
end Go.Proofs.Ytidhcbjhggdncaa
