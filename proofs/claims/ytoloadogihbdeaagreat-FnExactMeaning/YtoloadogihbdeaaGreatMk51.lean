import Derived.Test.YtoloadogihbdeaaGreatMk35
namespace Go.Proofs.YtoloadogihbdeaaGreat
open Go.RowKit Go.Deep
set_option maxHeartbeats 40000000
set_option maxRecDepth 100000
structure TwoY (B : Nat) (w : World) (g : Nat) (y1 : SL) (y2 : TB) : Prop where
 o1 : y1.own B w
 o2 : y2.own B w
 cp : Cp B w.heap.size (y1.fp ++ y2.fp)
 n : g ∉ y1.fp ++ y2.fp
theorem fp_ne {B g : Nat} {w : World} {x : SL} {L : List Value} {k : Int} (hx : x.own B w) (ho : OB w g (.int .i64 k :: L)) : g ∉ x.fp := by
 intro hm
 unfold SL.fp at hm
 by_cases h0 : x.len = 0
 · rw [if_pos h0] at hm
   cases hm
 rw [if_neg h0, List.mem_singleton] at hm
 obtain ⟨b, off, ha, _, hc⟩ := hx.1.1.2.2.2.resolve_left h0
 obtain ⟨g', hg', _⟩ := hx.2.resolve_left h0
 rw [ha] at hg' hm
 cases hg'
 have h1 := hc 0 (by omega)
 have h2 := (ho.2 0 _ rfl).1
 have hm' : g = b := hm
 rw [hm'] at h2
 rw [Nat.zero_add, h2] at h1
 cases h1
theorem exprOut {B g : Nat} {w w' : World} {y1 : SL} {y2 : TB} {L : List Value} {k : Int} (ho : OB w g (.int .i64 k :: L)) (h1 : y1.own B w) (h2 : y2.own B w) (hb : But g w w') (hc : Cp B w.heap.size (y1.fp ++ y2.fp)) : TwoY B w' g y1 y2 := by
 have n1 := fp_ne h1 ho
 have n2 := fp_ne (x := y2.sl) ⟨h2.1.1, h2.2⟩ ho
 have hn : g ∉ y1.fp ++ y2.fp := fun h => (List.mem_append.1 h).elim n1 n2
 have hs : Stay (y1.fp ++ y2.fp) w w' := ⟨fun b hb' => hb.block b (fun e => hn (e ▸ hb')), by rw [hb.size]; exact nR⟩
 exact ⟨h1.keep hs.left, h2.keep hs.right, by rw [hb.size]; exact hc, hn⟩
theorem l4ownE_of (d : EN) (kid : Nat → ET) (w : World) (h : (ET.mk d kid).lies 0 w)
 (IH : ∀ i, i < d.n → ∀ W, Bl w W → Calls Tryz.prog 78 #[.agg (kid i).d.ar] W fun r w' => ∃ y : ET, r = .returned (.agg y.d.ar) ∧ y.ow W.heap.size w' ∧ Cp W.heap.size w'.heap.size y.fp ∧ (kid i).same y ∧ Bl W w') :
 Calls Tryz.prog 78 #[.agg d.ar] w fun r w' => ∃ y : ET, r = .returned (.agg y.d.ar) ∧ y.ow w.heap.size w' ∧ Cp w.heap.size w'.heap.size y.fp ∧ (ET.mk d kid).same y ∧ Bl w w' := by
 try unfold EN.ar
 obtain ⟨hv, ht, hf, hn, hR, hk⟩ := h
 have HV := iH hv
 have HT := iH (fun W (hb : Bl w W) => l2ownT d.t W (ht.upper (uB hb)) hf)
 have HI := iH IH
 have HN := iH hn
 have HX := iH ((Box.new w d.ar 42 (0, 0)).below (bl_a (.cells zEa 42)))
 have HO : Hd (OB ((w.alloc (.cells d.ar 42)).alloc (.cells zEa 42)) (w.heap.size + 1) zEl) := (show OB _ _ _ by have h := OB.new (w.alloc (.cells d.ar 42)) zEa 42; simpa using h)
 have HB : Hd (Bl w ((w.alloc (.cells d.ar 42)).alloc (.cells zEa 42))) := bl_alloc (bl_a _) _
 have HR := iH hR
 clear hv ht hf hk IH hR
 go_in
 go_upto_region 1 with fail
 generalize ((w.alloc _).alloc _) = W1 at *
 have HG : Hd (w.heap.size + 1 < W1.heap.size) := HO.o.1
 go_cut [3] from 5 to 16 (fun s wx => ∃ (g : Nat) (y1 : SL) (y2 : TB), s = .pointer (some ⟨g, 0, none⟩) ∧ Hd (OB wx g [.int .i64 d.k, .int .i64 d.op, .slice y1.a y1.len y1.cap, .int .i64 y2.t.k, .slice y2.t.a y2.t.len y2.t.cap, .int .i64 y2.t.n, .int .i64 y2.t.s, .slice none 0 0]) ∧ Hd (TwoY W1.heap.size wx g y1 y2) ∧ Hd (W1.heap.size ≤ g) ∧ Hd (y1.b = d.v.b) ∧ Hd (d.t.td = y2.td) ∧ Hd (Bl W1 wx))
 case first =>
  go_wp2_with fail
  refine wqd (fun w' => Bl w w' ∧ Box w' w.heap.size d.cl) ?_ fun hHeld => ?_
  · exact ⟨Below.drew HB.o, HX.o.below bdr⟩
  refine tqB 0 5 ?_
  refine tqB 1 6 (v := .int .i64 d.k) (hy := by intro w' hSw; have c0 := hSw.2.2 0 _ rfl; go_simp; (try with_reducible rfl)) ?_
  refine tqB 2 7 ?_
  refine tqB 3 8 (v := .int .i64 d.op) (hy := by intro w' hSw; have c0 := hSw.2.2 1 _ rfl; go_simp; (try with_reducible rfl)) ?_
  refine tqB 5 10 ?_
  refine tqB 6 11 (v := .slice d.v.a d.v.len d.v.cap) (hy := by intro w' hSw; have c0 := hSw.2.2 2 _ rfl; go_simp; (try with_reducible rfl)) ?_
  refine tqB 8 13 ?_
  refine ldq 9 14 Tryz.underlying35 (fun w' h => h.2.range 3 [.int .i64 d.t.t.k, .slice d.t.t.a d.t.t.len d.t.t.cap, .int .i64 d.t.t.n, .int .i64 d.t.t.s] rfl) ?_
  have HBn := iH (Below.drew HB.o)
  have HXn := iH (HX.o.below bdr)
  have HOn := iH (HO.o.below bdr)
  have HZn : Hd (Bl W1 W1.drew) := Below.drew brf
  clear HB HX HO
  have HB := HBn
  have HX := HXn
  have HO := HOn
  have HZ := HZn
  clear HBn HXn HOn HZn
  generalize W1.drew = w_ at *
  refine wpAnyH_ready (rs := [4, 12]) (by kernel_rfl) (by simp) ?_
  refine AllReadyH.cons rfl (fun K hK => ?_) (AllReadyH.cons rfl (fun K hK => ?_) (AllReadyH.nil))
  clear hHeld
  go_simp
  refine hK.out _ _ ?_ fun hHeld => ?_
  · exact ⟨bl_alloc HB.o _, HX.o.below (bl_a _)⟩
  clear hK K
  try simp only [Act.put, sA, zA, cA]
  have hb2 : Bl w_ (w_.alloc (.cells #[] 5)) := bl_a _
  obtain ⟨bs, hbs⟩ : ∃ b, b = w_.heap.size := ⟨_, rfl⟩
  have HS : Hd (bs < (w_.alloc (.cells #[] 5)).heap.size) := (show bs < _ by rw [hbs]; simp)
  rw [← hbs]
  clear hbs
  generalize w_.alloc (.cells #[] 5) = ws at *
  have HBn := iH (bl_trans HB.o hb2)
  have HXn := iH (HX.o.below hb2)
  have HOn := iH (HO.o.below hb2)
  have HZn := iH (bl_trans HZ.o hb2)
  clear HB HX HO HZ hb2
  have HB := HBn
  have HX := HXn
  have HO := HOn
  have HZ := HZn
  clear HBn HXn HOn HZn
  rotate_left
  clear hHeld
  go_simp
  refine hK.out _ _ ?_ fun hHeld => ?_
  · exact ⟨bl_alloc HB.o _, HX.o.below (bl_a _)⟩
  clear hK K
  try simp only [Act.put, sA, zA, cA]
  have hb2 : Bl w_ (w_.alloc (.cells zEa 42)) := bl_a _
  have HOZ := iH (OB.new w_ zEa 42)
  have HGZ : Hd (W1.heap.size ≤ w_.heap.size) := HZ.o.size
  obtain ⟨gz, hgz⟩ : ∃ b, b = w_.heap.size := ⟨_, rfl⟩
  rw [← hgz] at HOZ HGZ ⊢
  clear hgz
  generalize w_.alloc (.cells zEa 42) = wz at *
  have HBn := iH (bl_trans HB.o hb2)
  have HXn := iH (HX.o.below hb2)
  have HOn := iH (HO.o.below hb2)
  have HZn := iH (bl_trans HZ.o hb2)
  clear HB HX HO HZ hb2
  have HB := HBn
  have HX := HXn
  have HO := HOn
  have HZ := HZn
  clear HBn HXn HOn HZn
  rotate_left
  refine wpAnyH_ready (rs := [7, 12]) (by kernel_rfl) (by simp) ?_
  refine AllReadyH.cons rfl (fun K hK => ?_) (AllReadyH.cons rfl (fun K hK => ?_) (AllReadyH.nil))
  refine step_app80 rfl (.tmp 9) (.tmp 11) 12 rfl rfl bs HS.o rfl d.v rfl (iH (HV.o.upper (uB HB.o))) ?_
  intro y1 wBs hy hc he hb
  have hb2 := hb.o
  clear hHeld
  refine hK.out _ _ ?_ fun hHeld => ?_
  · exact ⟨bl_trans HB.o hb2, HX.o.below hb2⟩
  clear hK K
  try simp only [Act.put, sA, zA, cA]
  have HY1 : Hd (y1.own W1.heap.size wBs) := hy.o.base HZ.o.size
  have HC : Hd (Cp W1.heap.size wBs.heap.size y1.fp) := hc.o.mono HZ.o.size nR
  have HE1 := he
  have HBn := iH (bl_trans HB.o hb2)
  have HXn := iH (HX.o.below hb2)
  have HOn := iH (HO.o.below hb2)
  have HZn := iH (bl_trans HZ.o hb2)
  clear HB HX HO HZ hb2 hb hy hc he HS
  have HB := HBn
  have HX := HXn
  have HO := HOn
  have HZ := HZn
  clear HBn HXn HOn HZn
  rotate_left
  clear hHeld
  go_simp
  refine hK.out _ _ ?_ fun hHeld => ?_
  · exact ⟨bl_alloc HB.o _, HX.o.below (bl_a _)⟩
  clear hK K
  try simp only [Act.put, sA, zA, cA]
  have hb2 : Bl ws (ws.alloc (.cells zEa 42)) := bl_a _
  have HOZ := iH (OB.new ws zEa 42)
  have HGZ : Hd (W1.heap.size ≤ ws.heap.size) := HZ.o.size
  obtain ⟨gz, hgz⟩ : ∃ b, b = ws.heap.size := ⟨_, rfl⟩
  rw [← hgz] at HOZ HGZ ⊢
  clear hgz
  generalize ws.alloc (.cells zEa 42) = wsz at *
  have HBn := iH (bl_trans HB.o hb2)
  have HXn := iH (HX.o.below hb2)
  have HOn := iH (HO.o.below hb2)
  have HZn := iH (bl_trans HZ.o hb2)
  have HSn := iH (Nat.lt_of_lt_of_le HS.o hb2.size)
  clear HB HX HO HZ HS hb2
  have HB := HBn
  have HX := HXn
  have HO := HOn
  have HZ := HZn
  have HS := HSn
  clear HBn HXn HOn HZn HSn
  rotate_left
  refine rqA 4 fun K hK => ?_
  clear hHeld
  go_simp
  refine hK.out _ _ ?_ fun hHeld => ?_
  · exact ⟨bl_alloc HB.o _, HX.o.below (bl_a _)⟩
  clear hK K
  try simp only [Act.put, sA, zA, cA]
  have hb2 : Bl wz (wz.alloc (.cells #[] 5)) := bl_a _
  obtain ⟨bs, hbs⟩ : ∃ b, b = wz.heap.size := ⟨_, rfl⟩
  have HS : Hd (bs < (wz.alloc (.cells #[] 5)).heap.size) := (show bs < _ by rw [hbs]; simp)
  rw [← hbs]
  clear hbs
  generalize wz.alloc (.cells #[] 5) = wsz at *
  have HBn := iH (bl_trans HB.o hb2)
  have HXn := iH (HX.o.below hb2)
  have HOn := iH (HO.o.below hb2)
  have HZn := iH (bl_trans HZ.o hb2)
  have HOZn := iH (HOZ.o.below hb2)
  clear HB HX HO HZ HOZ hb2
  have HB := HBn
  have HX := HXn
  have HO := HOn
  have HZ := HZn
  have HOZ := HOZn
  clear HBn HXn HOn HZn HOZn
  rotate_left
  refine wpAnyH_ready (rs := [10, 12]) (by kernel_rfl) (by simp) ?_
  refine AllReadyH.cons rfl (fun K hK => ?_) (AllReadyH.cons rfl (fun K hK => ?_) (AllReadyH.nil))
  go_simp
  refine (HT.o _ HB.o).mono ?_
  rintro r wBCs ⟨y2, rfl, hy, hc, he, hb2⟩
  clear hHeld
  have HE2 := iH he
  have HY2 : Hd (y2.own W1.heap.size wBCs) := hy.base HZ.o.size
  have HCn : Hd (Cp W1.heap.size wBCs.heap.size (y1.fp ++ y2.fp)) := HC.o.app hc HZ.o.size hb2.size
  have HBn := iH (bl_trans HB.o hb2)
  have HXn := iH (HX.o.below hb2)
  have HOn := iH (HO.o.below hb2)
  have HZn := iH (bl_trans HZ.o hb2)
  have HY1n := iH (HY1.o.upper (uB hb2))
  go_wp2_with fail
  refine hK.out _ _ ?_ fun hHeld => ?_
  · exact ⟨HBn.o, HXn.o⟩
  clear hK K
  try simp only [Act.put, sA, zA, cA]
  clear HB HX HO HZ HY1 hb2 hy hc he HC
  have HB := HBn
  have HX := HXn
  have HO := HOn
  have HZ := HZn
  have HY1 := HY1n
  clear HBn HXn HOn HZn HY1n
  have HC := HCn
  clear HCn
  refine tqB 11 16 (v := .agg (eA d.k d.op y1 y2 (.slice none 0 0))) ?_
  rotate_left
  clear hHeld
  go_simp
  refine hK.out _ _ ?_ fun hHeld => ?_
  · exact ⟨bl_alloc HB.o _, HX.o.below (bl_a _)⟩
  clear hK K
  try simp only [Act.put, sA, zA, cA]
  have hb2 : Bl wBs (wBs.alloc (.cells zEa 42)) := bl_a _
  have HOZ := iH (OB.new wBs zEa 42)
  have HGZ : Hd (W1.heap.size ≤ wBs.heap.size) := HZ.o.size
  obtain ⟨gz, hgz⟩ : ∃ b, b = wBs.heap.size := ⟨_, rfl⟩
  rw [← hgz] at HOZ HGZ ⊢
  clear hgz
  generalize wBs.alloc (.cells zEa 42) = wBsz at *
  have HBn := iH (bl_trans HB.o hb2)
  have HXn := iH (HX.o.below hb2)
  have HOn := iH (HO.o.below hb2)
  have HZn := iH (bl_trans HZ.o hb2)
  have HY1n := iH (HY1.o.upper (uB hb2))
  have HCn := iH (HC.o.mono nR hb2.size)
  clear HB HX HO HZ HY1 hb2
  have HB := HBn
  have HX := HXn
  have HO := HOn
  have HZ := HZn
  have HY1 := HY1n
  clear HBn HXn HOn HZn HY1n
  clear HC
  have HC := HCn
  clear HCn
  rotate_left
  refine rqA 7 fun K hK => ?_
  refine step_app80 rfl (.tmp 9) (.tmp 11) 12 rfl rfl bs HS.o rfl d.v rfl (iH (HV.o.upper (uB HB.o))) ?_
  intro y1 wBsz hy hc he hb
  have hb2 := hb.o
  clear hHeld
  refine hK.out _ _ ?_ fun hHeld => ?_
  · exact ⟨bl_trans HB.o hb2, HX.o.below hb2⟩
  clear hK K
  try simp only [Act.put, sA, zA, cA]
  have HY1 : Hd (y1.own W1.heap.size wBsz) := hy.o.base HZ.o.size
  have HC : Hd (Cp W1.heap.size wBsz.heap.size y1.fp) := hc.o.mono HZ.o.size nR
  have HE1 := he
  have HBn := iH (bl_trans HB.o hb2)
  have HXn := iH (HX.o.below hb2)
  have HOn := iH (HO.o.below hb2)
  have HZn := iH (bl_trans HZ.o hb2)
  have HOZn := iH (HOZ.o.below hb2)
  clear HB HX HO HZ HOZ hb2 hb hy hc he HS
  have HB := HBn
  have HX := HXn
  have HO := HOn
  have HZ := HZn
  have HOZ := HOZn
  clear HBn HXn HOn HZn HOZn
  rotate_left
  refine rqA 7 fun K hK => ?_
  refine step_app80 rfl (.tmp 9) (.tmp 11) 12 rfl rfl bs HS.o rfl d.v rfl (iH (HV.o.upper (uB HB.o))) ?_
  intro y1 wBsz hy hc he hb
  have hb2 := hb.o
  clear hHeld
  refine hK.out _ _ ?_ fun hHeld => ?_
  · exact ⟨bl_trans HB.o hb2, HX.o.below hb2⟩
  clear hK K
  try simp only [Act.put, sA, zA, cA]
  have HY1 : Hd (y1.own W1.heap.size wBsz) := hy.o.base HZ.o.size
  have HC : Hd (Cp W1.heap.size wBsz.heap.size y1.fp) := hc.o.mono HZ.o.size nR
  have HE1 := he
  have HBn := iH (bl_trans HB.o hb2)
  have HXn := iH (HX.o.below hb2)
  have HOn := iH (HO.o.below hb2)
  have HZn := iH (bl_trans HZ.o hb2)
  have HOZn := iH (HOZ.o.below hb2)
  clear HB HX HO HZ HOZ hb2 hb hy hc he HS
  have HB := HBn
  have HX := HXn
  have HO := HOn
  have HZ := HZn
  have HOZ := HOZn
  clear HBn HXn HOn HZn HOZn
  rotate_left
  refine rqA 12 fun K hK => ?_
  clear hHeld
  go_simp
  refine hK.out _ _ ?_ fun hHeld => ?_
  · exact ⟨bl_alloc HB.o _, HX.o.below (bl_a _)⟩
  clear hK K
  try simp only [Act.put, sA, zA, cA]
  have hb2 : Bl wBCs (wBCs.alloc (.cells zEa 42)) := bl_a _
  have HOZ := iH (OB.new wBCs zEa 42)
  have HGZ : Hd (W1.heap.size ≤ wBCs.heap.size) := HZ.o.size
  obtain ⟨gz, hgz⟩ : ∃ b, b = wBCs.heap.size := ⟨_, rfl⟩
  rw [← hgz] at HOZ HGZ ⊢
  clear hgz
  generalize wBCs.alloc (.cells zEa 42) = wBCsz at *
  have HBn := iH (bl_trans HB.o hb2)
  have HXn := iH (HX.o.below hb2)
  have HOn := iH (HO.o.below hb2)
  have HZn := iH (bl_trans HZ.o hb2)
  have HY1n := iH (HY1.o.upper (uB hb2))
  have HY2n := iH (HY2.o.upper (uB hb2))
  have HCn := iH (HC.o.mono nR hb2.size)
  clear HB HX HO HZ HY1 HY2 hb2
  have HB := HBn
  have HX := HXn
  have HO := HOn
  have HZ := HZn
  have HY1 := HY1n
  have HY2 := HY2n
  clear HBn HXn HOn HZn HY1n HY2n
  clear HC
  have HC := HCn
  clear HCn
  rotate_left
  refine rqA 10 fun K hK => ?_
  go_simp
  refine (HT.o _ HB.o).mono ?_
  rintro r wBCsz ⟨y2, rfl, hy, hc, he, hb2⟩
  clear hHeld
  have HE2 := iH he
  have HY2 : Hd (y2.own W1.heap.size wBCsz) := hy.base HZ.o.size
  have HCn : Hd (Cp W1.heap.size wBCsz.heap.size (y1.fp ++ y2.fp)) := HC.o.app hc HZ.o.size hb2.size
  have HBn := iH (bl_trans HB.o hb2)
  have HXn := iH (HX.o.below hb2)
  have HOn := iH (HO.o.below hb2)
  have HZn := iH (bl_trans HZ.o hb2)
  have HY1n := iH (HY1.o.upper (uB hb2))
  have HOZn := iH (HOZ.o.below hb2)
  go_wp2_with fail
  refine hK.out _ _ ?_ fun hHeld => ?_
  · exact ⟨HBn.o, HXn.o⟩
  clear hK K
  try simp only [Act.put, sA, zA, cA]
  clear HB HX HO HZ HY1 HOZ hb2 hy hc he HC
  have HB := HBn
  have HX := HXn
  have HO := HOn
  have HZ := HZn
  have HY1 := HY1n
  have HOZ := HOZn
  clear HBn HXn HOn HZn HY1n HOZn
  have HC := HCn
  clear HCn
  refine tqB 11 16 (v := .agg (eA d.k d.op y1 y2 (.slice none 0 0))) ?_
  rotate_left
  refine rqA 10 fun K hK => ?_
  go_simp
  refine (HT.o _ HB.o).mono ?_
  rintro r wBCsz ⟨y2, rfl, hy, hc, he, hb2⟩
  clear hHeld
  have HE2 := iH he
  have HY2 : Hd (y2.own W1.heap.size wBCsz) := hy.base HZ.o.size
  have HCn : Hd (Cp W1.heap.size wBCsz.heap.size (y1.fp ++ y2.fp)) := HC.o.app hc HZ.o.size hb2.size
  have HBn := iH (bl_trans HB.o hb2)
  have HXn := iH (HX.o.below hb2)
  have HOn := iH (HO.o.below hb2)
  have HZn := iH (bl_trans HZ.o hb2)
  have HY1n := iH (HY1.o.upper (uB hb2))
  have HOZn := iH (HOZ.o.below hb2)
  go_wp2_with fail
  refine hK.out _ _ ?_ fun hHeld => ?_
  · exact ⟨HBn.o, HXn.o⟩
  clear hK K
  try simp only [Act.put, sA, zA, cA]
  clear HB HX HO HZ HY1 HOZ hb2 hy hc he HC
  have HB := HBn
  have HX := HXn
  have HO := HOn
  have HZ := HZn
  have HY1 := HY1n
  have HOZ := HOZn
  clear HBn HXn HOn HZn HY1n HOZn
  have HC := HCn
  clear HCn
  refine tqB 11 16 (v := .agg (eA d.k d.op y1 y2 (.slice none 0 0))) ?_
  rotate_left
  refine rqA 10 fun K hK => ?_
  go_simp
  refine (HT.o _ HB.o).mono ?_
  rintro r wBCsz ⟨y2, rfl, hy, hc, he, hb2⟩
  clear hHeld
  have HE2 := iH he
  have HY2 : Hd (y2.own W1.heap.size wBCsz) := hy.base HZ.o.size
  have HCn : Hd (Cp W1.heap.size wBCsz.heap.size (y1.fp ++ y2.fp)) := HC.o.app hc HZ.o.size hb2.size
  have HBn := iH (bl_trans HB.o hb2)
  have HXn := iH (HX.o.below hb2)
  have HOn := iH (HO.o.below hb2)
  have HZn := iH (bl_trans HZ.o hb2)
  have HY1n := iH (HY1.o.upper (uB hb2))
  have HOZn := iH (HOZ.o.below hb2)
  go_wp2_with fail
  refine hK.out _ _ ?_ fun hHeld => ?_
  · exact ⟨HBn.o, HXn.o⟩
  clear hK K
  try simp only [Act.put, sA, zA, cA]
  clear HB HX HO HZ HY1 HOZ hb2 hy hc he HC
  have HB := HBn
  have HX := HXn
  have HO := HOn
  have HZ := HZn
  have HY1 := HY1n
  have HOZ := HOZn
  clear HBn HXn HOn HZn HY1n HOZn
  have HC := HCn
  clear HCn
  refine tqB 11 16 (v := .agg (eA d.k d.op y1 y2 (.slice none 0 0))) ?_
  rotate_left
  all_goals
   have st : wBCsz.there gz 0 8 := HOZ.o.there 0 8 (by simp)
   have on : ((eA d.k d.op y1 y2 (.slice none 0 0)) : Array Value).all (·.oneCell') = true := all_oneCell_toArray (cs := (eL d.k d.op y1 y2 (.slice none 0 0))) (by simp [Value.oneCell'])
   have hob := iH (HOZ.o.put (eL d.k d.op y1 y2 (.slice none 0 0)) 0 (eL d.k d.op y1 y2 (.slice none 0 0)) (by simp) rfl)
   have hpa := iH (but_sets gz (eL d.k d.op y1 y2 (.slice none 0 0)) 0 wBCsz)
   refine rqA 13 fun K hK => ?_
   refine step_storeV 42 gz 0 (eA d.k d.op y1 y2 (.slice none 0 0)) st on ?_
   clear hHeld
   have hgw : w.heap.size + 1 < gz := Nat.lt_of_lt_of_le HG.o HGZ.o
   refine hK.out _ _ ?_ fun hHeld => ?_
   · exact ⟨below_sets (w0 := w) gz (by omega) _ 0 _ HB.o, HX.o.upper hpa.o (by omega)⟩
   clear hK K st on hHeld
   try simp only [Act.put]
   have hbz := iH (below_sets (w0 := W1) gz HGZ.o (eL d.k d.op y1 y2 (.slice none 0 0)) 0 wBCsz HZ.o)
   generalize wBCsz.setCells gz 0 (eL d.k d.op y1 y2 (.slice none 0 0)) = W5 at *
   refine wpAnyH_done (by kernel_rfl) ?_ _
   go_wp2_with fail
   go_meet
   exact ⟨gz, y1, y2, rfl, hob, exprOut HOZ.o HY1.o HY2.o hpa.o HC.o, HGZ, HE1, HE2, hbz⟩
 obtain ⟨g, y1, y2, rfl, HOB, HTW, HGZ, HE1, HE2, HZ2⟩ := hcut
 obtain ⟨W2, hW2⟩ : ∃ W, W = wc := ⟨_, rfl⟩
 subst hW2
 have HN0 := HN
 go_wp2_with fail
 go_loopw [4] (fun i wr => ∃ (j : Nat) (v : Value) (k' : Nat → ET), j ≤ d.n ∧ i = .int .i64 j ∧ Hd (Gath (fun x : ET => x.d.cells) ET.fp (fun x W => x.ow W2.heap.size W) 42 8 W2.heap.size g 7 [.int .i64 d.k, .int .i64 d.op, .slice y1.a y1.len y1.cap, .int .i64 y2.t.k, .slice y2.t.a y2.t.len y2.t.cap, .int .i64 y2.t.n, .int .i64 y2.t.s, .slice none 0 0] (y1.fp ++ y2.fp) W1 W2 wr v j k') ∧ Hd (∀ i, i < j → (kid i).same (k' i)))
  (fun i _ => d.n - (intOf i).toNat)
 case atStart => exact ⟨0, _, kid, nZ, rfl, Gath.nil HZ2.o HOB.o HGZ.o (fun q hq => ⟨(HTW.o.cp.i q hq).2, fun e => HTW.o.n (e ▸ hq)⟩), fun i hi => absurd hi nN⟩
 obtain ⟨j, v, k', hj, rfl, HQ, HS⟩ := hrel
 have HXr := iH (HX.o.below HQ.o.bel)
 have HBr := iH (bl_trans HB.o HQ.o.bel)
 have cx := HXr.o.2 7 _ rfl
 by_cases hlj : j < d.n
 · obtain ⟨b, off, hka, _, hlt, hc⟩ := HR.o.resolve_left (by omega)
   have HC : Hd (∀ W, Bl w W → W.rangeAt b (off + j * 8) (kid j).d.cl) := fun W hb c u hu => (hb.cell (p := ⟨b, off + j * 8 + c, none⟩) hlt).trans (hc j hlj c u hu)
   have HXs : Hd (Box wr w.heap.size (eL d.k d.op d.v d.t (.slice (some ⟨b, off, none⟩) d.n d.kc))) := (show Box _ _ _ by have h := HXr.o; rwa [hka] at h)
   rw [hka] at cx
   clear hc hlt hka HXr
   go_wp2_with fail
   clear cx
   refine wqd (fun w' => Bl w w' ∧ Box w' w.heap.size (eL d.k d.op d.v d.t (.slice (some ⟨b, off, none⟩) d.n d.kc))) ?_ fun hHeld => ?_
   · exact ⟨Below.drew HBr.o, HXs.o.below bdr⟩
   have HQ2 := iH (HQ.o.below (okET _) bdr)
   have HB2 : Hd (Bl w wr.drew) := Below.drew HBr.o
   have HX2 := iH (HXs.o.below bdr)
   clear HQ HBr HXs
   have HQ := HQ2
   clear HQ2
   generalize wr.drew = w_ at *
   refine tqB 0 24 ?_
   refine tqB 2 26 ?_
   refine tqB 3 27 (v := .slice (some ⟨b, off, none⟩) d.n d.kc) (hy := by intro w' hSw; have c0 := hSw.2.2 7 _ rfl; go_simp; (try with_reducible rfl)) ?_
   refine tqB 4 28 (v := .int .i64 j) ?_
   refine tqB 5 29 (v := .pointer (some ⟨b, off + j * 8, none⟩)) ?_
   refine ldq 6 30 Tryz.underlying42 (fun w' h => HC.o w' h.1) ?_
   refine wpAnyH_ready (rs := [1, 7]) (by kernel_rfl) (by simp) ?_
   refine AllReadyH.cons rfl (fun K hK => ?_) (AllReadyH.cons rfl (fun K hK => ?_) (AllReadyH.nil))
   clear hHeld
   have cv := (HQ.o.box.2 7 v rfl).1
   go_simp
   refine hK.out _ _ ?_ fun hHeld => ?_
   · exact ⟨HB2.o, HX2.o⟩
   clear hK K cv
   try simp only [Act.put, sA, zA, cA]
   rotate_left
   go_simp
   refine (HI.o j hlj _ HB2.o).mono ?_
   rintro r wC ⟨y, rfl, hy, hc, he, hb2⟩
   clear hHeld
   have HE := iH he
   have HY := iH (HQ.o.call (okET _) hb2 (hy.base HQ.o.hM) hc)
   have HB3 := iH (bl_trans HB2.o hb2)
   have HX3 := iH (HX2.o.below hb2)
   clear hy hc he hb2 HQ HB2 HX2
   have HB2 := HB3
   have HX2 := HX3
   clear HB3 HX3
   refine hK.out _ _ ?_ fun hHeld => ?_
   · exact ⟨HB2.o, HX2.o⟩
   clear hK K
   try simp only [Act.put, sA, zA, cA]
   rotate_left
   refine rqA 7 fun K hK => ?_
   go_simp
   refine (HI.o j hlj _ HB2.o).mono ?_
   rintro r wC ⟨y, rfl, hy, hc, he, hb2⟩
   clear hHeld
   have HE := iH he
   have HY := iH (HQ.o.call (okET _) hb2 (hy.base HQ.o.hM) hc)
   have HB3 := iH (bl_trans HB2.o hb2)
   have HX3 := iH (HX2.o.below hb2)
   clear hy hc he hb2 HQ HB2 HX2
   have HB2 := HB3
   have HX2 := HX3
   clear HB3 HX3
   refine hK.out _ _ ?_ fun hHeld => ?_
   · exact ⟨HB2.o, HX2.o⟩
   clear hK K
   try simp only [Act.put, sA, zA, cA]
   rotate_left
   refine wpAnyH_ready (rs := [1, 8]) (by kernel_rfl) (by simp) ?_
   refine AllReadyH.cons rfl (fun K hK => ?_) (AllReadyH.cons rfl (fun K hK => ?_) (AllReadyH.nil))
   clear hHeld
   have cv := (HY.o.g.box.2 7 v rfl).1
   go_simp
   refine hK.out _ _ ?_ fun hHeld => ?_
   · exact ⟨HB2.o, HX2.o⟩
   clear hK K cv
   try simp only [Act.put, sA, zA, cA]
   rotate_left
   clear hHeld
   go_simp
   refine hK.out _ _ ?_ fun hHeld => ?_
   · exact ⟨bl_alloc HB2.o _, HX2.o.below (bl_a _)⟩
   clear hK K
   try simp only [Act.put, sA, zA, cA]
   have HN : Hd (∀ j u, (y.d.cl : List Value)[j]? = some u → (wC.alloc (.cells y.d.ar 42)).cell? ((⟨wC.heap.size, 0, none⟩ : Addr).add j) = some u) := fun j u hu => World.news_of_block (Go.heap_alloc_new _ _) j u hu
   have HY3 := iH (HY.o.below (okET _) (bl_a (w := wC) (.cells y.d.ar 42)))
   have HB3 := iH (bl_alloc HB2.o (.cells y.d.ar 42))
   have HX3 := iH (HX2.o.below (bl_a (w := wC) (.cells y.d.ar 42)))
   clear HY HB2 HX2
   have HY := HY3
   have HB2 := HB3
   have HX2 := HX3
   clear HY3 HB3 HX3
   obtain ⟨gb, hgb⟩ : ∃ b, b = wC.heap.size := ⟨_, rfl⟩
   rw [← hgb] at HN ⊢
   clear hgb
   generalize wC.alloc (.cells y.d.ar 42) = wB at *
   rotate_left
   refine rqA 8 fun K hK => ?_
   clear hHeld
   go_simp
   refine hK.out _ _ ?_ fun hHeld => ?_
   · exact ⟨bl_alloc HB2.o _, HX2.o.below (bl_a _)⟩
   clear hK K
   try simp only [Act.put, sA, zA, cA]
   have HN : Hd (∀ j u, (y.d.cl : List Value)[j]? = some u → (wC.alloc (.cells y.d.ar 42)).cell? ((⟨wC.heap.size, 0, none⟩ : Addr).add j) = some u) := fun j u hu => World.news_of_block (Go.heap_alloc_new _ _) j u hu
   have HY3 := iH (HY.o.below (okET _) (bl_a (w := wC) (.cells y.d.ar 42)))
   have HB3 := iH (bl_alloc HB2.o (.cells y.d.ar 42))
   have HX3 := iH (HX2.o.below (bl_a (w := wC) (.cells y.d.ar 42)))
   clear HY HB2 HX2
   have HY := HY3
   have HB2 := HB3
   have HX2 := HX3
   clear HY3 HB3 HX3
   obtain ⟨gb, hgb⟩ : ∃ b, b = wC.heap.size := ⟨_, rfl⟩
   rw [← hgb] at HN ⊢
   clear hgb
   generalize wC.alloc (.cells y.d.ar 42) = wB at *
   rotate_left
   refine rqA 8 fun K hK => ?_
   clear hHeld
   go_simp
   refine hK.out _ _ ?_ fun hHeld => ?_
   · exact ⟨bl_alloc HB2.o _, HX2.o.below (bl_a _)⟩
   clear hK K
   try simp only [Act.put, sA, zA, cA]
   have HN : Hd (∀ j u, (y.d.cl : List Value)[j]? = some u → (wC.alloc (.cells y.d.ar 42)).cell? ((⟨wC.heap.size, 0, none⟩ : Addr).add j) = some u) := fun j u hu => World.news_of_block (Go.heap_alloc_new _ _) j u hu
   have HY3 := iH (HY.o.below (okET _) (bl_a (w := wC) (.cells y.d.ar 42)))
   have HB3 := iH (bl_alloc HB2.o (.cells y.d.ar 42))
   have HX3 := iH (HX2.o.below (bl_a (w := wC) (.cells y.d.ar 42)))
   clear HY HB2 HX2
   have HY := HY3
   have HB2 := HB3
   have HX2 := HX3
   clear HY3 HB3 HX3
   obtain ⟨gb, hgb⟩ : ∃ b, b = wC.heap.size := ⟨_, rfl⟩
   rw [← hgb] at HN ⊢
   clear hgb
   generalize wC.alloc (.cells y.d.ar 42) = wB at *
   rotate_left
   refine rqA 1 fun K hK => ?_
   clear hHeld
   have cv := (HY.o.g.box.2 7 v rfl).1
   go_simp
   refine hK.out _ _ ?_ fun hHeld => ?_
   · exact ⟨HB2.o, HX2.o⟩
   clear hK K cv
   try simp only [Act.put, sA, zA, cA]
   rotate_left
   all_goals
    obtain ⟨kn, hk1, hk2⟩ : ∃ kn : Nat → ET, (∀ i, i < j → kn i = k' i) ∧ kn j = y := ⟨fun i => if i = j then y else k' i, fun i hi => if_neg (by omega), if_pos rfl⟩
    have HK1 := iH hk1
    have HK2 := iH hk2
    clear hk1 hk2
    have HC1 : Hd (∀ i, i < j → (fun i => (kn i).d.cells) i = (fun i => (k' i).d.cells) i) := fun i hi => (show (kn i).d.cells = _ by rw [HK1.o i hi])
    have HC2 : Hd ((fun i => (kn i).d.cells) j = y.d.cl) := (show (kn j).d.cells = _ by rw [HK2.o]; rfl)
    have one1 : ∀ u ∈ (y.d.cl : List Value), u.oneCell' = true := (by intro u hu; simp only [List.mem_cons, List.not_mem_nil, or_false] at hu; rcases hu with rfl | rfl | rfl | rfl | rfl | rfl | rfl | rfl <;> rfl)
    have HOW := iH HY.o.g.own
    have hMs := HY.o.g.hM
    have hjn : j ≤ 1048576 := by have := HN0.o; omega
    clear hHeld
    refine rqA 9 fun K hK => ?_
    refine stepCC (.tmp 25) (.tmp 32) 33 40 42 8 112 (.agg zEa) Tryz.underlying40 infoE9 W2.heap.size v j (fun i => (k' i).d.cells) HOW ⟨gb, 0, none⟩ 1 y.d.cl HN one1 hjn hMs (fun i => (kn i).d.cells) HC1 HC2 ?_
    intro g9 c9 w9 HO9 HA9 HG9 HD9
    clear one1 HC1 HC2 HN HOW hMs hjn
    have HB9 : Hd (Bl w w9) := HB2.o.trans (HD9.o.mono (by have := HB.o.size; have := HY.o.g.g0; have := HY.o.g.gM; omega))
    have HX9 : Hd (Box w9 w.heap.size (eL d.k d.op d.v d.t (.slice (some ⟨b, off, none⟩) d.n d.kc))) := HX2.o.bel8 HD9.o (by have := HX.o.1; have := HY.o.g.g0; have := HY.o.g.gM; omega)
    refine hK.out _ _ ?_ fun hHeld => ?_
    · exact ⟨HB9.o, HX9.o⟩
    clear hK K
    try simp only [Act.put, sA, zA, cA]
    refine tqB 10 34 ?_
    clear hHeld
    have HGn := iH (HY.o.add (okET _) HK1.o HK2.o HO9.o HA9.o HG9.o HD9.o)
    have c9 := ((HY.o.g.box.bel8 HD9.o HY.o.g.gM).2 7 v rfl).1
    have f9 := ((HY.o.g.box.bel8 HD9.o HY.o.g.gM).2 7 v rfl).2
    have HGB : Hd (w.heap.size < g) := (show w.heap.size < g by have := HX.o.1; have := HY.o.g.g0; omega)
    refine rqA 11 fun K hK => ?_
    go_simp
    refine hK.out _ _ ?_ fun hHeld => ?_
    · exact ⟨bl_set HB9.o (by show w.heap.size ≤ g; have := HGB.o; omega) _, HX9.o.upper ((But.refl g w9).set 7 _) (by have := HGB.o; omega)⟩
    clear hK K hHeld c9 f9 HY HO9 HA9 HG9 HD9 HB9 HX9 HB2 HX2
    try simp only [Act.put, sA, zA, cA]
    generalize w9.setCell ⟨g, 7, none⟩ _ = wS at *
    refine wpAnyH_done (by kernel_rfl) ?_ _
    have hle9 : d.n ≤ 1048576 := HN0.o
    go_wp2
    go_roundw
    case rel => exact ⟨j + 1, _, kn, by omega, by go_num, HGn.o, fun i hi => (if e : i = j then (by rw [e, HK2.o]; exact HE.o) else (by rw [HK1.o i (by omega)]; exact HS.o i (by omega)))⟩
    case measure => simp [intOf]; omega
 obtain rfl : j = d.n := by omega
 obtain ⟨a', c', rfl, hcc, hK, hZ, hCp⟩ := HQ.o.fin
 have HF : Hd (OB wr g (eL d.k d.op y1 y2 (.slice a' d.n c'))) := HQ.o.box
 have HO9 := iH (HO.o.below HQ.o.bel)
 have lf : wr.rangeAt g 0 (eL d.k d.op y1 y2 (.slice a' d.n c')) := HF.o.box.range 0 _ rfl
 have hst : wr.there (w.heap.size + 1) 0 8 := HO9.o.there 0 8 (by simp)
 have on : ((eA d.k d.op y1 y2 (.slice a' d.n c')) : Array Value).all (·.oneCell') = true := all_oneCell_toArray (cs := (eL d.k d.op y1 y2 (.slice a' d.n c'))) (by simp [Value.oneCell'])
 have hrd : (wr.setCells (w.heap.size + 1) 0 (eL d.k d.op y1 y2 (.slice a' d.n c'))).rangeAt (w.heap.size + 1) 0 (eL d.k d.op y1 y2 (.slice a' d.n c')) := World.rangeAt_setCells_same _ _ _ _ hst
 have hbf := iH (below_sets (w0 := w) (w.heap.size + 1) (by omega) (eL d.k d.op y1 y2 (.slice a' d.n c')) 0 wr HBr.o)
 have hsf : Hd ((wr.setCells (w.heap.size + 1) 0 (eL d.k d.op y1 y2 (.slice a' d.n c'))).heap.size = wr.heap.size) := (but_sets (w.heap.size + 1) (eL d.k d.op y1 y2 (.slice a' d.n c')) 0 wr).size
 have huf : Hd (Upper (w.heap.size + 1 + 1) wr (wr.setCells (w.heap.size + 1) 0 (eL d.k d.op y1 y2 (.slice a' d.n c')))) := upper_sets (w.heap.size + 1) (eL d.k d.op y1 y2 (.slice a' d.n c')) 0 wr
 have HKz := iH hK
 have HZz := iH hZ
 have HCz := iH hCp
 clear hK hZ hCp hcc HI hj hlj HXr
 go_wp2_with (first | (with_reducible refine wpv_at ?_; refine ldr rfl rfl rfl Tryz.underlying42 lf rfl ?_; try simp only [Act.put, sA, zA, cA]) | (with_reducible refine wpv_at ?_; refine store_stopV 42 (.tmp 2) (.tmp 35) rfl ?_))
 change wpList _ _ _ _ _ _
 refine wpList_store_mid rfl 42 _ _ rfl (w.heap.size + 1) 0 (eA d.k d.op y1 y2 (.slice a' d.n c')) rfl rfl hst (by kernel_rfl) on ?_
 try simp only [Act.put]
 generalize wr.setCells (w.heap.size + 1) 0 (eL d.k d.op y1 y2 (.slice a' d.n c')) = W5 at *
 go_wp2
 try simp only [Exit.inBlock, Exit.then]
 refine bodyPost_ret (v := .agg (eA d.k d.op y1 y2 (.slice a' d.n c'))) ?hr rfl ?hp
 case hr => exact results_cell rfl rfl (run_loadVar_mid (P := Tryz.prog) _ (w.heap.size + 1) 0 42 (eL d.k d.op y1 y2 (.slice a' d.n c')) _ hrd Tryz.underlying42 rfl (by kernel_rfl))
 have hw1 : w.heap.size ≤ W1.heap.size := by have := HG.o; omega
 have hw2 : W1.heap.size ≤ W2.heap.size := HZ2.o.size
 have hw3 : W2.heap.size ≤ wr.heap.size := HQ.o.hM
 have hU : Upper W1.heap.size wr W5 := huf.o.mono (by have := HG.o; omega)
 have q1 := (((HTW.o.o1.keep HQ.o.st.left).upper hU).base hw1)
 have q2 := (((HTW.o.o2.keep HQ.o.st.right).upper hU).base hw1)
 have q3 := fun i hi => ((HQ.o.ok i hi).upper (hU.mono hw2)).base (Nat.le_trans hw1 hw2)
 exact ⟨ET.mk ⟨d.k, d.op, y1, y2, a', c', d.n⟩ k', rfl, ⟨⟨q1.1, q2.1.1, q2.1.2, HN0.o, (HKz.o.upper (hU.mono hw2)).base (Nat.le_trans hw1 hw2), fun i hi => (q3 i hi).l⟩, ⟨q1.2, q2.2, (HZz.o.upper (hU.mono hw2)).base (Nat.le_trans hw1 hw2), fun i hi => (q3 i hi).z⟩⟩, (HTW.o.cp.app HCz.o hw2 hw3).mono hw1 (Nat.le_of_eq hsf.o.symm), ⟨rfl, rfl, HE1.o.symm, HE2.o, rfl, HS.o⟩, hbf.o⟩
end Go.Proofs.YtoloadogihbdeaaGreat
