import Derived.Test.YtoloadogihbdeaaGreatMk47
namespace Go.Proofs.YtoloadogihbdeaaGreat
open Go.RowKit Go.Deep
set_option maxHeartbeats 40000000
set_option maxRecDepth 100000
theorem addPlan_any (e : PT) : ∀ (v : Value) (L : List SL) (B g : Nat) (w0 w : World), e.lies 0 w0 → VQ w0 w B g v L → L.length + pc e ≤ 1000000 →
 Calls Tryz.prog 89 #[.pointer (some ⟨g, 0, none⟩), .agg e.d.ar] w (AddQ w0 B g v (pV e (L.map SL.b)) w) := by
 induction e with
 | nil => exact fun _ _ _ _ _ _ h => False.elim h
 | mk d kid ih =>
  intro v L B g w0 w hl h hn
  show Calls Tryz.prog 89 #[.pointer (some ⟨g, 0, none⟩), .agg d.ar] w (AddQ w0 B g v (pV (.mk d kid) (L.map SL.b)) w)
  obtain ⟨hp, he, hv, _, _, hn20, hR, hk⟩ := hl
  have hsz : pc (.mk d kid) = 3 + esz d.e + 1 + sumN d.n (fun i => pc (kid i)) := rfl
  have HIH : Hd (∀ i, i < d.n → ∀ (v' : Value) (L' : List SL) (W : World), VQ w0 W B g v' L' → L'.length + pc (kid i) ≤ 1000000 → Cl 89 #[.pointer (some ⟨g, 0, none⟩), .agg (kid i).d.ar] W (AddQ w0 B g v' (pV (kid i) (L'.map SL.b)) W)) := fun i hi v' L' W hV hL => ih i v' L' B g w0 W (hk i hi) hV hL
  have HQ0 : Hd (QS w0 w B g v v L d.cells (w.alloc (.cells d.ar 46))) := QS.new h d.ar 46
  have HPX : Hd (d.p.lies 0 w0) := hp
  have HEX : Hd (d.e.lies 0 w0) := he
  have HVX : Hd (BsF 0 w0 d.v) := hv
  have HKR : Hd (KRow 0 w0 28 d.ka d.n (fun i => (kid i).d.cells)) := hR
  have HLA : Hd (L.length + (3 + esz d.e + 1 + sumN d.n (fun i => pc (kid i))) ≤ 1000000) := (show _ ≤ 1000000 by omega)
  have HLK : Hd (∀ k, k < d.n → (foldN k (fun i acc => pV (kid i) acc) (addV (eV d.e (ptV d.p (L.map SL.b))) d.v.b)).length + pc (kid k) ≤ 1000000) := fun k hk => by
   have h1 := foldN_len (f := (fun i acc => pV (kid i) acc)) (c := fun i => pc (kid i)) (n := k) (fun i l _ => pV_len (kid i) l) (addV (eV d.e (ptV d.p (L.map SL.b))) d.v.b)
   have h2 := addV_len (eV d.e (ptV d.p (L.map SL.b))) d.v.b
   have h5 := eV_len d.e (ptV d.p (L.map SL.b))
   have h6 := ptV_len d.p (L.map SL.b)
   rw [List.length_map] at h6
   have h3 := sumN_mono (f := fun i => pc (kid i)) (show k + 1 ≤ d.n by omega)
   have h4 : sumN (k + 1) (fun i => pc (kid i)) = sumN k (fun i => pc (kid i)) + pc (kid k) := rfl
   have h7 := HLA.o
   omega
  clear h hp he hv hR hk ih hn hsz
  go_enter Tryz.func89, Tryz.ntmps89
  go_upto_region 1 with fail
  generalize hW : (w.alloc (.cells d.ar 46)) = W1 at *
  clear hW
  have lr := HQ0.o.bx.range 2 d.p.cl rfl
  go_wp2_with (with_reducible refine wpq_at ?_; refine ldr rfl rfl rfl Tryz.underlying39 lr rfl ?_; try simp only [Act.put, sA, zA, cA])
  refine (addPat_any v L d.p B g w0 _ HQ0.o.vq HPX.o (by have := HLA.o; omega)).mono ?_
  rintro e z1 ⟨v1, L1, rfl, hV1, hR1, hK1⟩
  have HQ1 : Hd (QS w0 w B g v v1 L1 d.cells z1) := HQ0.o.step hV1 hK1
  have HR1 : Hd (L1.map SL.b = (ptV d.p (L.map SL.b))) := hR1
  have HL1 : Hd (L1.length + (esz d.e + 1) ≤ 1000000) := (show _ ≤ 1000000 by have h1 := congrArg List.length hR1; have h2 := ptV_len d.p (L.map SL.b); rw [List.length_map] at h1 h2; have h3 := HLA.o; omega)
  clear hV1 hR1 hK1 HQ0 lr
  have le := HQ1.o.bx.range 17 d.e.d.cl rfl
  go_wp2_with (with_reducible refine wpq_at ?_; refine ldr rfl rfl rfl Tryz.underlying42 le rfl ?_; try simp only [Act.put, sA, zA, cA])
  refine (addExpr_any d.e v1 L1 B g w0 _ HEX.o HQ1.o.vq (by have := HL1.o; omega)).mono ?_
  rintro e z2 ⟨v2, L2, rfl, hV2, hR2, hK2⟩
  have HQ2 : Hd (QS w0 w B g v v2 L2 d.cells z2) := HQ1.o.step hV2 hK2
  have HR2 : Hd (L2.map SL.b = (eV d.e (ptV d.p (L.map SL.b)))) := (show _ = _ by rw [hR2, HR1.o])
  have HL2 : Hd (L2.length ≤ 1000000) := (show _ ≤ 1000000 by have h1 := congrArg List.length hR2; have h2 := eV_len d.e (L1.map SL.b); rw [List.length_map] at h1 h2; have h3 := HL1.o; omega)
  clear hV2 hR2 hK2 HQ1 le
  have y25 := HQ2.o.bx.2 25 _ rfl
  go_wp2_with fail
  refine (add_any v2 L2 d.v B g w0 _ HQ2.o.vq HVX.o HL2.o).mono ?_
  rintro e z3 ⟨v3, L3, rfl, hV3, hR3, hK3⟩
  have HQ3 : Hd (QS w0 w B g v v3 L3 d.cells z3) := HQ2.o.step hV3 hK3
  have HR3 : Hd (L3.map SL.b = (addV (eV d.e (ptV d.p (L.map SL.b))) d.v.b)) := (show _ = _ by rw [hR3, HR2.o])
  clear hV3 hR3 hK3 HQ2 y25
  have y27 : z3.cell? ⟨w.heap.size, 27, none⟩ = some (.slice d.ka d.n d.kc) := HQ3.o.bx.2 27 _ rfl
  obtain ⟨n, hnn⟩ : ∃ n, n = d.n := ⟨_, rfl⟩
  have HNN : Hd (n = d.n) := hnn
  rw [← hnn] at y27
  by_cases hn1 : n = 0
  · have HR0 : Hd (L3.map SL.b = pV (.mk d kid) (L.map SL.b)) := (show _ = foldN d.n (fun i acc => pV (kid i) acc) (addV (eV d.e (ptV d.p (L.map SL.b))) d.v.b) by rw [← hnn, hn1, HR3.o]; rfl)
    rw [hn1] at y27
    clear hn1 hnn
    go_wp2_with fail
    clear y27
    go_loopw [21] (fun i wr => i = .int .i64 0 ∧ Hd (QS w0 w B g v v3 L3 d.cells wr)) (fun _ _ => 0)
    case atStart => exact ⟨rfl, HQ3⟩
    obtain ⟨rfl, HQr⟩ := hrel
    go_wp2
    go_end0
    exact ⟨v3, L3, rfl, HQr.o.vq, HR0.o, HQr.o.kq⟩
  obtain ⟨b, off, eK, _, hbk, hck⟩ := HKR.o.resolve_left (by omega)
  have HCK : Hd (∀ i, i < d.n → ∀ c u, ((kid i).d.cells)[c]? = some u → w0.cell? ⟨b, off + i * 28 + c, none⟩ = some u) := hck
  have hbk' : b < w0.heap.size := hbk
  have hn2 : n ≤ 1048576 := by omega
  rw [eK] at y27
  clear eK hck hnn hbk HKR
  go_wp2_with fail
  clear y27
  go_loopw [21] (fun i wr => ∃ (k : Nat) (v' : Value) (L' : List SL), k ≤ n ∧ i = .int .i64 k ∧ Hd (L'.map SL.b = foldN k (fun i acc => pV (kid i) acc) (addV (eV d.e (ptV d.p (L.map SL.b))) d.v.b)) ∧ Hd (QS w0 w B g v v' L' d.cells wr)) (fun i _ => n - (intOf i).toNat)
  case atStart => exact ⟨0, v3, L3, nZ, rfl, HR3, HQ3⟩
  clear HQ3
  obtain ⟨k, v', L', hk, rfl, HRr, HQr⟩ := hrel
  by_cases hlk : k < n
  rotate_left
  · obtain rfl : k = n := by omega
    have hlkz : ¬ (k : Int) < (k : Int) := by omega
    have HR2 : Hd (L'.map SL.b = pV (.mk d kid) (L.map SL.b)) := (show _ = foldN d.n (fun i acc => pV (kid i) acc) (addV (eV d.e (ptV d.p (L.map SL.b))) d.v.b) by rw [← HNN.o]; exact HRr.o)
    go_wp2
    go_end0
    exact ⟨v', L', rfl, HQr.o.vq, HR2.o, HQr.o.kq⟩
  have hlkz : (k : Int) < (n : Int) := by omega
  have hcx : wr.rangeAt b (off + k * 28) (kid k).d.cl := fun c u hu => (HQr.o.vq.bl.cell (p := ⟨b, off + k * 28 + c, none⟩) hbk').trans (HCK.o k (by rw [← HNN.o]; exact hlk) c u hu)
  have HLl : Hd (L'.length + pc (kid k) ≤ 1000000) := (show _ ≤ 1000000 by have h1 := HLK.o k (by rw [← HNN.o]; exact hlk); have h2 := congrArg List.length HRr.o; rw [List.length_map] at h2; omega)
  have st : (wr.alloc (.cells zNa 46)).there wr.heap.size 0 28 := (OB.new wr zNa 46).there 0 28 (by simp)
  have on : ((kid k).d.ar : Array Value).all (·.oneCell') = true := PN.one (kid k).d
  have HBk : Hd (Bl wr ((wr.alloc (.cells zNa 46)).setCells wr.heap.size 0 (kid k).d.cl)) := below_sets _ nR _ _ _ (bl_a _)
  have HXk : Hd (Box ((wr.alloc (.cells zNa 46)).setCells wr.heap.size 0 (kid k).d.cl) wr.heap.size (kid k).d.cells) := ((OB.new wr zNa 46).put (kid k).d.cells 0 (kid k).d.cells (show 0 + 28 ≤ 28 by omega) rfl).box
  have HQ4 : Hd (QS w0 w B g v v' L' d.cells ((wr.alloc (.cells zNa 46)).setCells wr.heap.size 0 (kid k).d.cl)) := HQr.o.below HBk.o
  go_upto_region 7 with (first | (with_reducible refine wpq_at ?_; refine wpList_load_mid rfl 46 _ rfl b (off + k * 28) rfl (kid k).d.cl _ hcx Tryz.underlying46 rfl (by kernel_rfl) ?_; try simp only [Act.put, sA, zA, cA]) | (with_reducible refine wpq_at ?_; refine wpList_store_mid rfl 46 _ _ rfl _ _ _ rfl rfl st (by kernel_rfl) on ?_; try simp only [Act.put]))
  generalize ((wr.alloc (.cells zNa 46)).setCells wr.heap.size 0 (kid k).d.cl) = W5 at *
  generalize hgg : wr.heap.size = gk at *
  clear hcx st on HBk HQr hgg
  have lr := HXk.o.range 0 (kid k).d.cl rfl
  go_wp2_with (with_reducible refine wpq_at ?_; refine wpList_load_mid rfl 46 _ rfl gk 0 rfl (kid k).d.cl _ lr Tryz.underlying46 rfl (by kernel_rfl) ?_; try simp only [Act.put, sA, zA, cA])
  refine (HIH.o k (by rw [← HNN.o]; exact hlk) v' L' _ HQ4.o.vq HLl.o).mono ?_
  rintro e z5 ⟨v5, L5, rfl, hV5, hR5, hK5⟩
  have HQ5 : Hd (QS w0 w B g v v5 L5 d.cells z5) := HQ4.o.step hV5 hK5
  have HR5 : Hd (L5.map SL.b = foldN (k + 1) (fun i acc => pV (kid i) acc) (addV (eV d.e (ptV d.p (L.map SL.b))) d.v.b)) := (show _ = pV (kid k) (foldN k (fun i acc => pV (kid i) acc) (addV (eV d.e (ptV d.p (L.map SL.b))) d.v.b)) by rw [hR5, HRr.o])
  clear hV5 hR5 hK5 HQ4 HXk lr
  go_wp2
  go_roundw
  case rel => exact ⟨k + 1, v5, L5, by omega, by go_num, HR5, HQ5⟩
  case measure => simp [intOf]; omega
theorem vq_new {w0 w : World} (hb : Bl w0 w) (t : TypeId) : VQ w0 (w.alloc (.cells #[.slice none 0 0] t)) w.heap.size w.heap.size (.slice none 0 0) [] :=
 ⟨by simp [go_sem], by simp [go_sem], by simp, VL.nil _ _ _, fun e => (by cases e), hb.size, hb.size, hb.trans ((bl_a _).mono hb.size), by simp⟩
end Go.Proofs.YtoloadogihbdeaaGreat
