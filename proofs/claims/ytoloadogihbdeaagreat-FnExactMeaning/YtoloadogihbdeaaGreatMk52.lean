import Derived.Test.YtoloadogihbdeaaGreatMk51
import Derived.Test.YtoloadogihbdeaaGreatMk36
namespace Go.Proofs.YtoloadogihbdeaaGreat
open Go.RowKit Go.Deep
set_option maxHeartbeats 40000000
set_option maxRecDepth 100000
theorem l4ownE (e : ET) : ∀ (w : World), e.lies 0 w → Calls Tryz.prog 78 #[.agg e.d.ar] w fun r w' => ∃ y : ET, r = .returned (.agg y.d.ar) ∧ y.ow w.heap.size w' ∧ Cp w.heap.size w'.heap.size y.fp ∧ (e).same y ∧ Bl w w' := by
 induction e with
 | nil => exact fun _ h => False.elim h
 | mk d kid ih => exact fun w h => l4ownE_of d kid w h fun i hi W hb => ih i W (ET.lies.upper (uB hb) (h.2.2.2.2.2 i hi))
theorem infoP15 : (Tryz.prog.info? 39).map (fun i => (i.zero, i.size, i.bytes)) = some (some (.agg zPa), 15, 216) := by kernel_rfl
structure TriY (B : Nat) (w : World) (g : Nat) (y1 : ET) (y2 : SL) (y3 : TR) : Prop where
 o1 : y1.ow B w
 o2 : y2.own B w
 o3 : y3.own B w
 cp : Cp B w.heap.size (y1.fp ++ y2.fp ++ tfp y3.a y3.l)
 n : g ∉ y1.fp ++ y2.fp ++ tfp y3.a y3.l
theorem TR.own.keep {B : Nat} {w w' : World} {y : TR} (h : y.own B w) (hk : Stay (tfp y.a y.l) w w') : y.own B w' := by
 have h2 := terms_keep h.row h.z h.t hk
 exact ⟨h.le, h2.1, h2.2.1, h2.2.2⟩
theorem okPB (M : Nat) (x : PB) (w w' : World) (h : x.own M w) (k : Stay x.fp w w') : x.own M w' := h.keep k
theorem okAT (M : Nat) (x : AT) (w w' : World) (h : x.ow M w) (k : Stay x.fp w w') : x.ow M w' := h.keep k
theorem Cp.perm {lo hi : Nat} {A L : List Nat} (h : Cp lo hi A) (e : A.Perm L) : Cp lo hi L := ⟨e.nodup_iff.1 h.nd, fun b hb => h.i b (e.mem_iff.2 hb)⟩
theorem algOut {B g : Nat} {w w' : World} {y1 : ET} {y2 : SL} {y3 : TR} (h1 : y1.ow B w) (h2 : y2.own B w) (h3 : y3.own B w) (hb : But g w w') (hc : Cp B w.heap.size (y1.fp ++ y2.fp ++ tfp y3.a y3.l)) (hn : ∀ q ∈ y1.fp ++ y2.fp ++ tfp y3.a y3.l, q ≠ g) : TriY B w' g y1 y2 y3 := by
 have hs := Stay.but hb hn
 exact ⟨h1.keep hs.left.left, h2.keep hs.left.right, h3.keep hs.right, by rw [hb.size]; exact hc, fun h => hn g h rfl⟩
theorem l5own_of (d : AN) (kid : Nat → AT) (w : World) (h : (AT.mk d kid).lies 0 w)
 (IH : ∀ i, i < d.n → ∀ W, Bl w W → Calls Tryz.prog 61 #[.agg (kid i).d.ar] W fun r w' => ∃ y : AT, r = .returned (.agg y.d.ar) ∧ y.ow W.heap.size w' ∧ Cp W.heap.size w'.heap.size y.fp ∧ (kid i).same y ∧ Bl W w') :
 Calls Tryz.prog 61 #[.agg d.ar] w fun r w' => ∃ y : AT, r = .returned (.agg y.d.ar) ∧ y.ow w.heap.size w' ∧ Cp w.heap.size w'.heap.size y.fp ∧ (AT.mk d kid).same y ∧ Bl w w' := by
 try unfold AN.ar
 obtain ⟨hrp, hpl, hpn, he, hv, ht, htn, hn, hR, hk⟩ := h
 have HEX := iH (fun W (hb : Bl w W) => l4ownE d.e W (ET.lies.upper (uB hb) he))
 have HV := iH hv
 have HTS := iH (fun W (hb : Bl w W) => l4ownTs d.ta d.tc d.tb W htn (ht.upper (uB hb)))
 have HIp := iH (fun i (hi : i < d.pn) W (hb : Bl w W) => l4ownP (d.pat i) W ((hpl i hi).upper (uB hb)))
 have HI := iH IH
 have HN0 := iH hn
 have HPN := iH hpn
 have HTN := iH htn
 have HRp := iH hrp
 have HR := iH hR
 have HX := iH ((Box.new w d.ar 52 (0, 0)).below (bl_a (.cells zGa 52)))
 have HO : Hd (OB ((w.alloc (.cells d.ar 52)).alloc (.cells zGa 52)) (w.heap.size + 1) zGl) := (show OB _ _ _ by have h := OB.new (w.alloc (.cells d.ar 52)) zGa 52; simpa using h)
 have HB : Hd (Bl w ((w.alloc (.cells d.ar 52)).alloc (.cells zGa 52))) := bl_alloc (bl_a _) _
 clear hrp hpl hpn he hv ht htn hn hR hk IH
 go_in
 go_upto_region 1 with fail
 generalize ((w.alloc _).alloc _) = W1 at *
 have HG : Hd (w.heap.size + 1 < W1.heap.size) := HO.o.1
 go_cut [3] from 6 to 18 (fun s wx => ∃ (g : Nat) (y1 : ET) (y2 : SL) (y3 : TR), s = .pointer (some ⟨g, 0, none⟩) ∧ Hd (OB wx g [.int .i64 d.k, .slice none 0 0, .int .i64 y1.d.k, .int .i64 y1.d.op, .slice y1.d.v.a y1.d.v.len y1.d.v.cap, .int .i64 y1.d.t.t.k, .slice y1.d.t.t.a y1.d.t.t.len y1.d.t.t.cap, .int .i64 y1.d.t.t.n, .int .i64 y1.d.t.t.s, .slice y1.d.ka y1.d.n y1.d.kc, .slice y2.a y2.len y2.cap, .slice y3.a y3.l.length y3.c, .slice none 0 0]) ∧ Hd (TriY W1.heap.size wx g y1 y2 y3) ∧ Hd (W1.heap.size ≤ g) ∧ Hd (d.e.same y1) ∧ Hd (y2.b = d.v.b) ∧ Hd (d.tb.map TB.td = y3.l.map TB.td) ∧ Hd (Bl W1 wx))
 case first =>
  go_wp2_with fail
  refine wqd (fun w' => Bl w w' ∧ Box w' w.heap.size d.cl) ?_ fun hHeld => ?_
  · exact ⟨Below.drew HB.o, HX.o.below bdr⟩
  refine tqB 0 6 ?_
  refine tqB 1 7 (v := .int .i64 d.k) (hy := by intro w' hSw; have c0 := hSw.2.2 0 _ rfl; go_simp; (try with_reducible rfl)) ?_
  refine tqB 2 8 ?_
  refine ldq 3 9 Tryz.underlying42 (fun w' h => h.2.range 2 d.e.d.cl rfl) ?_
  refine tqB 6 12 ?_
  refine tqB 7 13 (v := .slice d.v.a d.v.len d.v.cap) (hy := by intro w' hSw; have c0 := hSw.2.2 10 _ rfl; go_simp; (try with_reducible rfl)) ?_
  refine tqB 9 15 ?_
  refine tqB 10 16 (v := .slice d.ta d.tb.length d.tc) (hy := by intro w' hSw; have c0 := hSw.2.2 11 _ rfl; go_simp; (try with_reducible rfl)) ?_
  have HBn := iH (Below.drew HB.o)
  have HXn := iH (HX.o.below bdr)
  have HOn := iH (HO.o.below bdr)
  have HZn : Hd (Bl W1 W1.drew) := Below.drew brf
  clear HB HX HO
  have HB := HBn
  have HX := HXn
  have HO := HOn
  have HZ := HZn
  clear HBn HXn HOn HZn
  generalize W1.drew = w_ at *
  refine wpAnyH_ready (rs := [4, 5, 13]) (by kernel_rfl) (by simp) ?_
  refine AllReadyH.cons rfl (fun K hK => ?_) (AllReadyH.cons rfl (fun K hK => ?_) (AllReadyH.cons rfl (fun K hK => ?_) (AllReadyH.nil)))
  go_simp
  refine (HEX.o _ HB.o).mono ?_
  rintro r wE ⟨y1, rfl, hy, hc, he, hb2⟩
  clear hHeld
  have HE1 := iH he
  have HY1 : Hd (y1.ow W1.heap.size wE) := hy.base HZ.o.size
  have HCn : Hd (Cp W1.heap.size wE.heap.size (y1.fp)) := hc.mono HZ.o.size nR
  have HBn := iH (bl_trans HB.o hb2)
  have HXn := iH (HX.o.below hb2)
  have HOn := iH (HO.o.below hb2)
  have HZn := iH (bl_trans HZ.o hb2)
  refine hK.out _ _ ?_ fun hHeld => ?_
  · exact ⟨HBn.o, HXn.o⟩
  clear hK K
  try simp only [Act.put, sA, zA, cA]
  clear HB HX HO HZ hb2 hy hc he
  have HB := HBn
  have HX := HXn
  have HO := HOn
  have HZ := HZn
  clear HBn HXn HOn HZn
  have HC := HCn
  clear HCn
  rotate_left
  clear hHeld
  go_simp
  refine hK.out _ _ ?_ fun hHeld => ?_
  · exact ⟨bl_alloc HB.o _, HX.o.below (bl_a _)⟩
  clear hK K
  try simp only [Act.put, sA, zA, cA]
  have hb2 : Bl w_ (w_.alloc (.cells #[] 5)) := bl_a _
  obtain ⟨bs, hbs⟩ : ∃ b, b = w_.heap.size := ⟨_, rfl⟩
  have HS : Hd (bs < (w_.alloc (.cells #[] 5)).heap.size) := (show bs < _ by rw [hbs]; simp)
  rw [← hbs]
  clear hbs
  generalize w_.alloc (.cells #[] 5) = ws at *
  have HBn := iH (bl_trans HB.o hb2)
  have HXn := iH (HX.o.below hb2)
  have HOn := iH (HO.o.below hb2)
  have HZn := iH (bl_trans HZ.o hb2)
  clear HB HX HO HZ hb2
  have HB := HBn
  have HX := HXn
  have HO := HOn
  have HZ := HZn
  clear HBn HXn HOn HZn
  rotate_left
  clear hHeld
  go_simp
  refine hK.out _ _ ?_ fun hHeld => ?_
  · exact ⟨bl_alloc HB.o _, HX.o.below (bl_a _)⟩
  clear hK K
  try simp only [Act.put, sA, zA, cA]
  have HNZ : Hd (∀ q ∈ [], q ≠ w_.heap.size) := fun q hq => by cases hq
  have hb2 : Bl w_ (w_.alloc (.cells zGa 52)) := bl_a _
  have HOZ := iH (OB.new w_ zGa 52)
  have HGZ : Hd (W1.heap.size ≤ w_.heap.size) := HZ.o.size
  obtain ⟨gz, hgz⟩ : ∃ b, b = w_.heap.size := ⟨_, rfl⟩
  rw [← hgz] at HOZ HGZ HNZ ⊢
  clear hgz
  generalize w_.alloc (.cells zGa 52) = wz at *
  have HBn := iH (bl_trans HB.o hb2)
  have HXn := iH (HX.o.below hb2)
  have HOn := iH (HO.o.below hb2)
  have HZn := iH (bl_trans HZ.o hb2)
  clear HB HX HO HZ hb2
  have HB := HBn
  have HX := HXn
  have HO := HOn
  have HZ := HZn
  clear HBn HXn HOn HZn
  rotate_left
  refine wpAnyH_ready (rs := [5, 13]) (by kernel_rfl) (by simp) ?_
  refine AllReadyH.cons rfl (fun K hK => ?_) (AllReadyH.cons rfl (fun K hK => ?_) (AllReadyH.nil))
  clear hHeld
  go_simp
  refine hK.out _ _ ?_ fun hHeld => ?_
  · exact ⟨bl_alloc HB.o _, HX.o.below (bl_a _)⟩
  clear hK K
  try simp only [Act.put, sA, zA, cA]
  have hb2 : Bl wE (wE.alloc (.cells #[] 5)) := bl_a _
  obtain ⟨bs, hbs⟩ : ∃ b, b = wE.heap.size := ⟨_, rfl⟩
  have HS : Hd (bs < (wE.alloc (.cells #[] 5)).heap.size) := (show bs < _ by rw [hbs]; simp)
  rw [← hbs]
  clear hbs
  generalize wE.alloc (.cells #[] 5) = wEs at *
  have HBn := iH (bl_trans HB.o hb2)
  have HXn := iH (HX.o.below hb2)
  have HOn := iH (HO.o.below hb2)
  have HZn := iH (bl_trans HZ.o hb2)
  have HY1n := iH (HY1.o.upper (uB hb2))
  have HCn := iH (HC.o.mono nR hb2.size)
  clear HB HX HO HZ HY1 HC hb2
  have HB := HBn
  have HX := HXn
  have HO := HOn
  have HZ := HZn
  have HY1 := HY1n
  have HC := HCn
  clear HBn HXn HOn HZn HY1n HCn
  rotate_left
  clear hHeld
  go_simp
  refine hK.out _ _ ?_ fun hHeld => ?_
  · exact ⟨bl_alloc HB.o _, HX.o.below (bl_a _)⟩
  clear hK K
  try simp only [Act.put, sA, zA, cA]
  have HNZ : Hd (∀ q ∈ y1.fp, q ≠ wE.heap.size) := fun q hq => by have := (HC.o.i q hq).2; omega
  have hb2 : Bl wE (wE.alloc (.cells zGa 52)) := bl_a _
  have HOZ := iH (OB.new wE zGa 52)
  have HGZ : Hd (W1.heap.size ≤ wE.heap.size) := HZ.o.size
  obtain ⟨gz, hgz⟩ : ∃ b, b = wE.heap.size := ⟨_, rfl⟩
  rw [← hgz] at HOZ HGZ HNZ ⊢
  clear hgz
  generalize wE.alloc (.cells zGa 52) = wEz at *
  have HBn := iH (bl_trans HB.o hb2)
  have HXn := iH (HX.o.below hb2)
  have HOn := iH (HO.o.below hb2)
  have HZn := iH (bl_trans HZ.o hb2)
  have HY1n := iH (HY1.o.upper (uB hb2))
  have HCn := iH (HC.o.mono nR hb2.size)
  clear HB HX HO HZ HY1 HC hb2
  have HB := HBn
  have HX := HXn
  have HO := HOn
  have HZ := HZn
  have HY1 := HY1n
  have HC := HCn
  clear HBn HXn HOn HZn HY1n HCn
  rotate_left
  refine wpAnyH_ready (rs := [4, 13]) (by kernel_rfl) (by simp) ?_
  refine AllReadyH.cons rfl (fun K hK => ?_) (AllReadyH.cons rfl (fun K hK => ?_) (AllReadyH.nil))
  go_simp
  refine (HEX.o _ HB.o).mono ?_
  rintro r wEs ⟨y1, rfl, hy, hc, he, hb2⟩
  clear hHeld
  have HE1 := iH he
  have HY1 : Hd (y1.ow W1.heap.size wEs) := hy.base HZ.o.size
  have HCn : Hd (Cp W1.heap.size wEs.heap.size (y1.fp)) := hc.mono HZ.o.size nR
  have HBn := iH (bl_trans HB.o hb2)
  have HXn := iH (HX.o.below hb2)
  have HOn := iH (HO.o.below hb2)
  have HZn := iH (bl_trans HZ.o hb2)
  have HSn := iH (Nat.lt_of_lt_of_le HS.o hb2.size)
  refine hK.out _ _ ?_ fun hHeld => ?_
  · exact ⟨HBn.o, HXn.o⟩
  clear hK K
  try simp only [Act.put, sA, zA, cA]
  clear HB HX HO HZ HS hb2 hy hc he
  have HB := HBn
  have HX := HXn
  have HO := HOn
  have HZ := HZn
  have HS := HSn
  clear HBn HXn HOn HZn HSn
  have HC := HCn
  clear HCn
  rotate_left
  clear hHeld
  go_simp
  refine hK.out _ _ ?_ fun hHeld => ?_
  · exact ⟨bl_alloc HB.o _, HX.o.below (bl_a _)⟩
  clear hK K
  try simp only [Act.put, sA, zA, cA]
  have HNZ : Hd (∀ q ∈ [], q ≠ ws.heap.size) := fun q hq => by cases hq
  have hb2 : Bl ws (ws.alloc (.cells zGa 52)) := bl_a _
  have HOZ := iH (OB.new ws zGa 52)
  have HGZ : Hd (W1.heap.size ≤ ws.heap.size) := HZ.o.size
  obtain ⟨gz, hgz⟩ : ∃ b, b = ws.heap.size := ⟨_, rfl⟩
  rw [← hgz] at HOZ HGZ HNZ ⊢
  clear hgz
  generalize ws.alloc (.cells zGa 52) = wsz at *
  have HBn := iH (bl_trans HB.o hb2)
  have HXn := iH (HX.o.below hb2)
  have HOn := iH (HO.o.below hb2)
  have HZn := iH (bl_trans HZ.o hb2)
  have HSn := iH (Nat.lt_of_lt_of_le HS.o hb2.size)
  clear HB HX HO HZ HS hb2
  have HB := HBn
  have HX := HXn
  have HO := HOn
  have HZ := HZn
  have HS := HSn
  clear HBn HXn HOn HZn HSn
  rotate_left
  refine wpAnyH_ready (rs := [4, 5]) (by kernel_rfl) (by simp) ?_
  refine AllReadyH.cons rfl (fun K hK => ?_) (AllReadyH.cons rfl (fun K hK => ?_) (AllReadyH.nil))
  go_simp
  refine (HEX.o _ HB.o).mono ?_
  rintro r wEz ⟨y1, rfl, hy, hc, he, hb2⟩
  clear hHeld
  have HE1 := iH he
  have HY1 : Hd (y1.ow W1.heap.size wEz) := hy.base HZ.o.size
  have HCn : Hd (Cp W1.heap.size wEz.heap.size (y1.fp)) := hc.mono HZ.o.size nR
  have HNZn : Hd (∀ q ∈ y1.fp, q ≠ gz) := fun q hq => by have := (hc.i q hq).1; have := HOZ.o.1; omega
  have HBn := iH (bl_trans HB.o hb2)
  have HXn := iH (HX.o.below hb2)
  have HOn := iH (HO.o.below hb2)
  have HZn := iH (bl_trans HZ.o hb2)
  have HOZn := iH (HOZ.o.below hb2)
  refine hK.out _ _ ?_ fun hHeld => ?_
  · exact ⟨HBn.o, HXn.o⟩
  clear hK K
  try simp only [Act.put, sA, zA, cA]
  clear HB HX HO HZ HOZ hb2 hy hc he
  have HB := HBn
  have HX := HXn
  have HO := HOn
  have HZ := HZn
  have HOZ := HOZn
  clear HBn HXn HOn HZn HOZn
  clear HNZ
  have HC := HCn
  clear HCn
  have HNZ := HNZn
  clear HNZn
  rotate_left
  clear hHeld
  go_simp
  refine hK.out _ _ ?_ fun hHeld => ?_
  · exact ⟨bl_alloc HB.o _, HX.o.below (bl_a _)⟩
  clear hK K
  try simp only [Act.put, sA, zA, cA]
  have hb2 : Bl wz (wz.alloc (.cells #[] 5)) := bl_a _
  obtain ⟨bs, hbs⟩ : ∃ b, b = wz.heap.size := ⟨_, rfl⟩
  have HS : Hd (bs < (wz.alloc (.cells #[] 5)).heap.size) := (show bs < _ by rw [hbs]; simp)
  rw [← hbs]
  clear hbs
  generalize wz.alloc (.cells #[] 5) = wsz at *
  have HBn := iH (bl_trans HB.o hb2)
  have HXn := iH (HX.o.below hb2)
  have HOn := iH (HO.o.below hb2)
  have HZn := iH (bl_trans HZ.o hb2)
  have HOZn := iH (HOZ.o.below hb2)
  clear HB HX HO HZ HOZ hb2
  have HB := HBn
  have HX := HXn
  have HO := HOn
  have HZ := HZn
  have HOZ := HOZn
  clear HBn HXn HOn HZn HOZn
  rotate_left
  refine wpAnyH_ready (rs := [8, 13]) (by kernel_rfl) (by simp) ?_
  refine AllReadyH.cons rfl (fun K hK => ?_) (AllReadyH.cons rfl (fun K hK => ?_) (AllReadyH.nil))
  refine step_app80 rfl (.tmp 11) (.tmp 13) 14 rfl rfl bs HS.o rfl d.v rfl (iH (HV.o.upper (uB HB.o))) ?_
  intro y2 wBEs hy0 hc0 he0 hb0
  have hb2 := hb0.o
  have hc := hc0.o
  clear hHeld
  refine hK.out _ _ ?_ fun hHeld => ?_
  · exact ⟨bl_trans HB.o hb2, HX.o.below hb2⟩
  clear hK K
  try simp only [Act.put, sA, zA, cA]
  have HY2 : Hd (y2.own W1.heap.size wBEs) := hy0.o.base HZ.o.size
  have HE2 := he0
  have HCn : Hd (Cp W1.heap.size wBEs.heap.size (y1.fp ++ y2.fp)) := HC.o.app hc HZ.o.size hb2.size
  have HBn := iH (bl_trans HB.o hb2)
  have HXn := iH (HX.o.below hb2)
  have HOn := iH (HO.o.below hb2)
  have HZn := iH (bl_trans HZ.o hb2)
  have HY1n := iH (HY1.o.upper (uB hb2))
  clear HB HX HO HZ HY1 hb2 hb0 hc0 hc hy0 he0 HS
  have HB := HBn
  have HX := HXn
  have HO := HOn
  have HZ := HZn
  have HY1 := HY1n
  clear HBn HXn HOn HZn HY1n
  clear HC
  have HC := HCn
  clear HCn
  rotate_left
  clear hHeld
  go_simp
  refine hK.out _ _ ?_ fun hHeld => ?_
  · exact ⟨bl_alloc HB.o _, HX.o.below (bl_a _)⟩
  clear hK K
  try simp only [Act.put, sA, zA, cA]
  have HNZ : Hd (∀ q ∈ y1.fp, q ≠ wEs.heap.size) := fun q hq => by have := (HC.o.i q hq).2; omega
  have hb2 : Bl wEs (wEs.alloc (.cells zGa 52)) := bl_a _
  have HOZ := iH (OB.new wEs zGa 52)
  have HGZ : Hd (W1.heap.size ≤ wEs.heap.size) := HZ.o.size
  obtain ⟨gz, hgz⟩ : ∃ b, b = wEs.heap.size := ⟨_, rfl⟩
  rw [← hgz] at HOZ HGZ HNZ ⊢
  clear hgz
  generalize wEs.alloc (.cells zGa 52) = wEsz at *
  have HBn := iH (bl_trans HB.o hb2)
  have HXn := iH (HX.o.below hb2)
  have HOn := iH (HO.o.below hb2)
  have HZn := iH (bl_trans HZ.o hb2)
  have HSn := iH (Nat.lt_of_lt_of_le HS.o hb2.size)
  have HY1n := iH (HY1.o.upper (uB hb2))
  have HCn := iH (HC.o.mono nR hb2.size)
  clear HB HX HO HZ HS HY1 HC hb2
  have HB := HBn
  have HX := HXn
  have HO := HOn
  have HZ := HZn
  have HS := HSn
  have HY1 := HY1n
  have HC := HCn
  clear HBn HXn HOn HZn HSn HY1n HCn
  rotate_left
  refine rqA 5 fun K hK => ?_
  clear hHeld
  go_simp
  refine hK.out _ _ ?_ fun hHeld => ?_
  · exact ⟨bl_alloc HB.o _, HX.o.below (bl_a _)⟩
  clear hK K
  try simp only [Act.put, sA, zA, cA]
  have hb2 : Bl wEz (wEz.alloc (.cells #[] 5)) := bl_a _
  obtain ⟨bs, hbs⟩ : ∃ b, b = wEz.heap.size := ⟨_, rfl⟩
  have HS : Hd (bs < (wEz.alloc (.cells #[] 5)).heap.size) := (show bs < _ by rw [hbs]; simp)
  rw [← hbs]
  clear hbs
  generalize wEz.alloc (.cells #[] 5) = wEsz at *
  have HBn := iH (bl_trans HB.o hb2)
  have HXn := iH (HX.o.below hb2)
  have HOn := iH (HO.o.below hb2)
  have HZn := iH (bl_trans HZ.o hb2)
  have HY1n := iH (HY1.o.upper (uB hb2))
  have HOZn := iH (HOZ.o.below hb2)
  have HCn := iH (HC.o.mono nR hb2.size)
  clear HB HX HO HZ HY1 HOZ HC hb2
  have HB := HBn
  have HX := HXn
  have HO := HOn
  have HZ := HZn
  have HY1 := HY1n
  have HOZ := HOZn
  have HC := HCn
  clear HBn HXn HOn HZn HY1n HOZn HCn
  rotate_left
  refine wpAnyH_ready (rs := [8, 13]) (by kernel_rfl) (by simp) ?_
  refine AllReadyH.cons rfl (fun K hK => ?_) (AllReadyH.cons rfl (fun K hK => ?_) (AllReadyH.nil))
  refine step_app80 rfl (.tmp 11) (.tmp 13) 14 rfl rfl bs HS.o rfl d.v rfl (iH (HV.o.upper (uB HB.o))) ?_
  intro y2 wBEs hy0 hc0 he0 hb0
  have hb2 := hb0.o
  have hc := hc0.o
  clear hHeld
  refine hK.out _ _ ?_ fun hHeld => ?_
  · exact ⟨bl_trans HB.o hb2, HX.o.below hb2⟩
  clear hK K
  try simp only [Act.put, sA, zA, cA]
  have HY2 : Hd (y2.own W1.heap.size wBEs) := hy0.o.base HZ.o.size
  have HE2 := he0
  have HCn : Hd (Cp W1.heap.size wBEs.heap.size (y1.fp ++ y2.fp)) := HC.o.app hc HZ.o.size hb2.size
  have HBn := iH (bl_trans HB.o hb2)
  have HXn := iH (HX.o.below hb2)
  have HOn := iH (HO.o.below hb2)
  have HZn := iH (bl_trans HZ.o hb2)
  have HY1n := iH (HY1.o.upper (uB hb2))
  clear HB HX HO HZ HY1 hb2 hb0 hc0 hc hy0 he0 HS
  have HB := HBn
  have HX := HXn
  have HO := HOn
  have HZ := HZn
  have HY1 := HY1n
  clear HBn HXn HOn HZn HY1n
  clear HC
  have HC := HCn
  clear HCn
  rotate_left
  clear hHeld
  go_simp
  refine hK.out _ _ ?_ fun hHeld => ?_
  · exact ⟨bl_alloc HB.o _, HX.o.below (bl_a _)⟩
  clear hK K
  try simp only [Act.put, sA, zA, cA]
  have HNZ : Hd (∀ q ∈ y1.fp, q ≠ wEs.heap.size) := fun q hq => by have := (HC.o.i q hq).2; omega
  have hb2 : Bl wEs (wEs.alloc (.cells zGa 52)) := bl_a _
  have HOZ := iH (OB.new wEs zGa 52)
  have HGZ : Hd (W1.heap.size ≤ wEs.heap.size) := HZ.o.size
  obtain ⟨gz, hgz⟩ : ∃ b, b = wEs.heap.size := ⟨_, rfl⟩
  rw [← hgz] at HOZ HGZ HNZ ⊢
  clear hgz
  generalize wEs.alloc (.cells zGa 52) = wEsz at *
  have HBn := iH (bl_trans HB.o hb2)
  have HXn := iH (HX.o.below hb2)
  have HOn := iH (HO.o.below hb2)
  have HZn := iH (bl_trans HZ.o hb2)
  have HSn := iH (Nat.lt_of_lt_of_le HS.o hb2.size)
  have HY1n := iH (HY1.o.upper (uB hb2))
  have HCn := iH (HC.o.mono nR hb2.size)
  clear HB HX HO HZ HS HY1 HC hb2
  have HB := HBn
  have HX := HXn
  have HO := HOn
  have HZ := HZn
  have HS := HSn
  have HY1 := HY1n
  have HC := HCn
  clear HBn HXn HOn HZn HSn HY1n HCn
  rotate_left
  refine rqA 4 fun K hK => ?_
  go_simp
  refine (HEX.o _ HB.o).mono ?_
  rintro r wEsz ⟨y1, rfl, hy, hc, he, hb2⟩
  clear hHeld
  have HE1 := iH he
  have HY1 : Hd (y1.ow W1.heap.size wEsz) := hy.base HZ.o.size
  have HCn : Hd (Cp W1.heap.size wEsz.heap.size (y1.fp)) := hc.mono HZ.o.size nR
  have HNZn : Hd (∀ q ∈ y1.fp, q ≠ gz) := fun q hq => by have := (hc.i q hq).1; have := HOZ.o.1; omega
  have HBn := iH (bl_trans HB.o hb2)
  have HXn := iH (HX.o.below hb2)
  have HOn := iH (HO.o.below hb2)
  have HZn := iH (bl_trans HZ.o hb2)
  have HSn := iH (Nat.lt_of_lt_of_le HS.o hb2.size)
  have HOZn := iH (HOZ.o.below hb2)
  refine hK.out _ _ ?_ fun hHeld => ?_
  · exact ⟨HBn.o, HXn.o⟩
  clear hK K
  try simp only [Act.put, sA, zA, cA]
  clear HB HX HO HZ HS HOZ hb2 hy hc he
  have HB := HBn
  have HX := HXn
  have HO := HOn
  have HZ := HZn
  have HS := HSn
  have HOZ := HOZn
  clear HBn HXn HOn HZn HSn HOZn
  clear HNZ
  have HC := HCn
  clear HCn
  have HNZ := HNZn
  clear HNZn
  rotate_left
  refine rqA 5 fun K hK => ?_
  clear hHeld
  go_simp
  refine hK.out _ _ ?_ fun hHeld => ?_
  · exact ⟨bl_alloc HB.o _, HX.o.below (bl_a _)⟩
  clear hK K
  try simp only [Act.put, sA, zA, cA]
  have hb2 : Bl wEz (wEz.alloc (.cells #[] 5)) := bl_a _
  obtain ⟨bs, hbs⟩ : ∃ b, b = wEz.heap.size := ⟨_, rfl⟩
  have HS : Hd (bs < (wEz.alloc (.cells #[] 5)).heap.size) := (show bs < _ by rw [hbs]; simp)
  rw [← hbs]
  clear hbs
  generalize wEz.alloc (.cells #[] 5) = wEsz at *
  have HBn := iH (bl_trans HB.o hb2)
  have HXn := iH (HX.o.below hb2)
  have HOn := iH (HO.o.below hb2)
  have HZn := iH (bl_trans HZ.o hb2)
  have HY1n := iH (HY1.o.upper (uB hb2))
  have HOZn := iH (HOZ.o.below hb2)
  have HCn := iH (HC.o.mono nR hb2.size)
  clear HB HX HO HZ HY1 HOZ HC hb2
  have HB := HBn
  have HX := HXn
  have HO := HOn
  have HZ := HZn
  have HY1 := HY1n
  have HOZ := HOZn
  have HC := HCn
  clear HBn HXn HOn HZn HY1n HOZn HCn
  rotate_left
  refine rqA 4 fun K hK => ?_
  go_simp
  refine (HEX.o _ HB.o).mono ?_
  rintro r wEsz ⟨y1, rfl, hy, hc, he, hb2⟩
  clear hHeld
  have HE1 := iH he
  have HY1 : Hd (y1.ow W1.heap.size wEsz) := hy.base HZ.o.size
  have HCn : Hd (Cp W1.heap.size wEsz.heap.size (y1.fp)) := hc.mono HZ.o.size nR
  have HNZn : Hd (∀ q ∈ y1.fp, q ≠ gz) := fun q hq => by have := (hc.i q hq).1; have := HOZ.o.1; omega
  have HBn := iH (bl_trans HB.o hb2)
  have HXn := iH (HX.o.below hb2)
  have HOn := iH (HO.o.below hb2)
  have HZn := iH (bl_trans HZ.o hb2)
  have HSn := iH (Nat.lt_of_lt_of_le HS.o hb2.size)
  have HOZn := iH (HOZ.o.below hb2)
  refine hK.out _ _ ?_ fun hHeld => ?_
  · exact ⟨HBn.o, HXn.o⟩
  clear hK K
  try simp only [Act.put, sA, zA, cA]
  clear HB HX HO HZ HS HOZ hb2 hy hc he
  have HB := HBn
  have HX := HXn
  have HO := HOn
  have HZ := HZn
  have HS := HSn
  have HOZ := HOZn
  clear HBn HXn HOn HZn HSn HOZn
  clear HNZ
  have HC := HCn
  clear HCn
  have HNZ := HNZn
  clear HNZn
  rotate_left
  refine wpAnyH_ready (rs := [11, 13]) (by kernel_rfl) (by simp) ?_
  refine AllReadyH.cons rfl (fun K hK => ?_) (AllReadyH.cons rfl (fun K hK => ?_) (AllReadyH.nil))
  go_simp
  refine (HTS.o _ HB.o).mono ?_
  rintro r wBETs ⟨y3, rfl, hy, hc, he, hb2⟩
  clear hHeld
  have HE3 := iH he
  have HY3 : Hd (y3.own W1.heap.size wBETs) := hy.base HZ.o.size
  have HCn : Hd (Cp W1.heap.size wBETs.heap.size (y1.fp ++ y2.fp ++ tfp y3.a y3.l)) := HC.o.app hc HZ.o.size hb2.size
  have HBn := iH (bl_trans HB.o hb2)
  have HXn := iH (HX.o.below hb2)
  have HOn := iH (HO.o.below hb2)
  have HZn := iH (bl_trans HZ.o hb2)
  have HY1n := iH (HY1.o.upper (uB hb2))
  have HY2n := iH (HY2.o.upper (uB hb2))
  refine hK.out _ _ ?_ fun hHeld => ?_
  · exact ⟨HBn.o, HXn.o⟩
  clear hK K
  try simp only [Act.put, sA, zA, cA]
  clear HB HX HO HZ HY1 HY2 hb2 hy hc he
  have HB := HBn
  have HX := HXn
  have HO := HOn
  have HZ := HZn
  have HY1 := HY1n
  have HY2 := HY2n
  clear HBn HXn HOn HZn HY1n HY2n
  clear HC
  have HC := HCn
  clear HCn
  refine tqB 12 18 (v := .agg (gA d.k (.slice none 0 0) y1.d y2 (.slice y3.a y3.l.length y3.c) (.slice none 0 0))) ?_
  rotate_left
  clear hHeld
  go_simp
  refine hK.out _ _ ?_ fun hHeld => ?_
  · exact ⟨bl_alloc HB.o _, HX.o.below (bl_a _)⟩
  clear hK K
  try simp only [Act.put, sA, zA, cA]
  have HNZ : Hd (∀ q ∈ y1.fp ++ y2.fp, q ≠ wBEs.heap.size) := fun q hq => by have := (HC.o.i q hq).2; omega
  have hb2 : Bl wBEs (wBEs.alloc (.cells zGa 52)) := bl_a _
  have HOZ := iH (OB.new wBEs zGa 52)
  have HGZ : Hd (W1.heap.size ≤ wBEs.heap.size) := HZ.o.size
  obtain ⟨gz, hgz⟩ : ∃ b, b = wBEs.heap.size := ⟨_, rfl⟩
  rw [← hgz] at HOZ HGZ HNZ ⊢
  clear hgz
  generalize wBEs.alloc (.cells zGa 52) = wBEsz at *
  have HBn := iH (bl_trans HB.o hb2)
  have HXn := iH (HX.o.below hb2)
  have HOn := iH (HO.o.below hb2)
  have HZn := iH (bl_trans HZ.o hb2)
  have HY1n := iH (HY1.o.upper (uB hb2))
  have HY2n := iH (HY2.o.upper (uB hb2))
  have HCn := iH (HC.o.mono nR hb2.size)
  clear HB HX HO HZ HY1 HY2 HC hb2
  have HB := HBn
  have HX := HXn
  have HO := HOn
  have HZ := HZn
  have HY1 := HY1n
  have HY2 := HY2n
  have HC := HCn
  clear HBn HXn HOn HZn HY1n HY2n HCn
  rotate_left
  refine rqA 8 fun K hK => ?_
  refine step_app80 rfl (.tmp 11) (.tmp 13) 14 rfl rfl bs HS.o rfl d.v rfl (iH (HV.o.upper (uB HB.o))) ?_
  intro y2 wBEsz hy0 hc0 he0 hb0
  have hb2 := hb0.o
  have hc := hc0.o
  clear hHeld
  refine hK.out _ _ ?_ fun hHeld => ?_
  · exact ⟨bl_trans HB.o hb2, HX.o.below hb2⟩
  clear hK K
  try simp only [Act.put, sA, zA, cA]
  have HY2 : Hd (y2.own W1.heap.size wBEsz) := hy0.o.base HZ.o.size
  have HE2 := he0
  have HCn : Hd (Cp W1.heap.size wBEsz.heap.size (y1.fp ++ y2.fp)) := HC.o.app hc HZ.o.size hb2.size
  have HNZn : Hd (∀ q ∈ y1.fp ++ y2.fp, q ≠ gz) := fun q hq => (List.mem_append.1 hq).elim (HNZ.o q) fun hq => by have := (hc.i q hq).1; have := HOZ.o.1; omega
  have HBn := iH (bl_trans HB.o hb2)
  have HXn := iH (HX.o.below hb2)
  have HOn := iH (HO.o.below hb2)
  have HZn := iH (bl_trans HZ.o hb2)
  have HY1n := iH (HY1.o.upper (uB hb2))
  have HOZn := iH (HOZ.o.below hb2)
  clear HB HX HO HZ HY1 HOZ hb2 hb0 hc0 hc hy0 he0 HS
  have HB := HBn
  have HX := HXn
  have HO := HOn
  have HZ := HZn
  have HY1 := HY1n
  have HOZ := HOZn
  clear HBn HXn HOn HZn HY1n HOZn
  clear HC
  clear HNZ
  have HC := HCn
  clear HCn
  have HNZ := HNZn
  clear HNZn
  rotate_left
  refine rqA 8 fun K hK => ?_
  refine step_app80 rfl (.tmp 11) (.tmp 13) 14 rfl rfl bs HS.o rfl d.v rfl (iH (HV.o.upper (uB HB.o))) ?_
  intro y2 wBEsz hy0 hc0 he0 hb0
  have hb2 := hb0.o
  have hc := hc0.o
  clear hHeld
  refine hK.out _ _ ?_ fun hHeld => ?_
  · exact ⟨bl_trans HB.o hb2, HX.o.below hb2⟩
  clear hK K
  try simp only [Act.put, sA, zA, cA]
  have HY2 : Hd (y2.own W1.heap.size wBEsz) := hy0.o.base HZ.o.size
  have HE2 := he0
  have HCn : Hd (Cp W1.heap.size wBEsz.heap.size (y1.fp ++ y2.fp)) := HC.o.app hc HZ.o.size hb2.size
  have HNZn : Hd (∀ q ∈ y1.fp ++ y2.fp, q ≠ gz) := fun q hq => (List.mem_append.1 hq).elim (HNZ.o q) fun hq => by have := (hc.i q hq).1; have := HOZ.o.1; omega
  have HBn := iH (bl_trans HB.o hb2)
  have HXn := iH (HX.o.below hb2)
  have HOn := iH (HO.o.below hb2)
  have HZn := iH (bl_trans HZ.o hb2)
  have HY1n := iH (HY1.o.upper (uB hb2))
  have HOZn := iH (HOZ.o.below hb2)
  clear HB HX HO HZ HY1 HOZ hb2 hb0 hc0 hc hy0 he0 HS
  have HB := HBn
  have HX := HXn
  have HO := HOn
  have HZ := HZn
  have HY1 := HY1n
  have HOZ := HOZn
  clear HBn HXn HOn HZn HY1n HOZn
  clear HC
  clear HNZ
  have HC := HCn
  clear HCn
  have HNZ := HNZn
  clear HNZn
  rotate_left
  refine wpAnyH_ready (rs := [11, 13]) (by kernel_rfl) (by simp) ?_
  refine AllReadyH.cons rfl (fun K hK => ?_) (AllReadyH.cons rfl (fun K hK => ?_) (AllReadyH.nil))
  go_simp
  refine (HTS.o _ HB.o).mono ?_
  rintro r wBETs ⟨y3, rfl, hy, hc, he, hb2⟩
  clear hHeld
  have HE3 := iH he
  have HY3 : Hd (y3.own W1.heap.size wBETs) := hy.base HZ.o.size
  have HCn : Hd (Cp W1.heap.size wBETs.heap.size (y1.fp ++ y2.fp ++ tfp y3.a y3.l)) := HC.o.app hc HZ.o.size hb2.size
  have HBn := iH (bl_trans HB.o hb2)
  have HXn := iH (HX.o.below hb2)
  have HOn := iH (HO.o.below hb2)
  have HZn := iH (bl_trans HZ.o hb2)
  have HY1n := iH (HY1.o.upper (uB hb2))
  have HY2n := iH (HY2.o.upper (uB hb2))
  refine hK.out _ _ ?_ fun hHeld => ?_
  · exact ⟨HBn.o, HXn.o⟩
  clear hK K
  try simp only [Act.put, sA, zA, cA]
  clear HB HX HO HZ HY1 HY2 hb2 hy hc he
  have HB := HBn
  have HX := HXn
  have HO := HOn
  have HZ := HZn
  have HY1 := HY1n
  have HY2 := HY2n
  clear HBn HXn HOn HZn HY1n HY2n
  clear HC
  have HC := HCn
  clear HCn
  refine tqB 12 18 (v := .agg (gA d.k (.slice none 0 0) y1.d y2 (.slice y3.a y3.l.length y3.c) (.slice none 0 0))) ?_
  rotate_left
  clear hHeld
  go_simp
  refine hK.out _ _ ?_ fun hHeld => ?_
  · exact ⟨bl_alloc HB.o _, HX.o.below (bl_a _)⟩
  clear hK K
  try simp only [Act.put, sA, zA, cA]
  have HNZ : Hd (∀ q ∈ y1.fp ++ y2.fp, q ≠ wBEs.heap.size) := fun q hq => by have := (HC.o.i q hq).2; omega
  have hb2 : Bl wBEs (wBEs.alloc (.cells zGa 52)) := bl_a _
  have HOZ := iH (OB.new wBEs zGa 52)
  have HGZ : Hd (W1.heap.size ≤ wBEs.heap.size) := HZ.o.size
  obtain ⟨gz, hgz⟩ : ∃ b, b = wBEs.heap.size := ⟨_, rfl⟩
  rw [← hgz] at HOZ HGZ HNZ ⊢
  clear hgz
  generalize wBEs.alloc (.cells zGa 52) = wBEsz at *
  have HBn := iH (bl_trans HB.o hb2)
  have HXn := iH (HX.o.below hb2)
  have HOn := iH (HO.o.below hb2)
  have HZn := iH (bl_trans HZ.o hb2)
  have HY1n := iH (HY1.o.upper (uB hb2))
  have HY2n := iH (HY2.o.upper (uB hb2))
  have HCn := iH (HC.o.mono nR hb2.size)
  clear HB HX HO HZ HY1 HY2 HC hb2
  have HB := HBn
  have HX := HXn
  have HO := HOn
  have HZ := HZn
  have HY1 := HY1n
  have HY2 := HY2n
  have HC := HCn
  clear HBn HXn HOn HZn HY1n HY2n HCn
  rotate_left
  refine rqA 8 fun K hK => ?_
  refine step_app80 rfl (.tmp 11) (.tmp 13) 14 rfl rfl bs HS.o rfl d.v rfl (iH (HV.o.upper (uB HB.o))) ?_
  intro y2 wBEsz hy0 hc0 he0 hb0
  have hb2 := hb0.o
  have hc := hc0.o
  clear hHeld
  refine hK.out _ _ ?_ fun hHeld => ?_
  · exact ⟨bl_trans HB.o hb2, HX.o.below hb2⟩
  clear hK K
  try simp only [Act.put, sA, zA, cA]
  have HY2 : Hd (y2.own W1.heap.size wBEsz) := hy0.o.base HZ.o.size
  have HE2 := he0
  have HCn : Hd (Cp W1.heap.size wBEsz.heap.size (y1.fp ++ y2.fp)) := HC.o.app hc HZ.o.size hb2.size
  have HNZn : Hd (∀ q ∈ y1.fp ++ y2.fp, q ≠ gz) := fun q hq => (List.mem_append.1 hq).elim (HNZ.o q) fun hq => by have := (hc.i q hq).1; have := HOZ.o.1; omega
  have HBn := iH (bl_trans HB.o hb2)
  have HXn := iH (HX.o.below hb2)
  have HOn := iH (HO.o.below hb2)
  have HZn := iH (bl_trans HZ.o hb2)
  have HY1n := iH (HY1.o.upper (uB hb2))
  have HOZn := iH (HOZ.o.below hb2)
  clear HB HX HO HZ HY1 HOZ hb2 hb0 hc0 hc hy0 he0 HS
  have HB := HBn
  have HX := HXn
  have HO := HOn
  have HZ := HZn
  have HY1 := HY1n
  have HOZ := HOZn
  clear HBn HXn HOn HZn HY1n HOZn
  clear HC
  clear HNZ
  have HC := HCn
  clear HCn
  have HNZ := HNZn
  clear HNZn
  rotate_left
  refine rqA 8 fun K hK => ?_
  refine step_app80 rfl (.tmp 11) (.tmp 13) 14 rfl rfl bs HS.o rfl d.v rfl (iH (HV.o.upper (uB HB.o))) ?_
  intro y2 wBEsz hy0 hc0 he0 hb0
  have hb2 := hb0.o
  have hc := hc0.o
  clear hHeld
  refine hK.out _ _ ?_ fun hHeld => ?_
  · exact ⟨bl_trans HB.o hb2, HX.o.below hb2⟩
  clear hK K
  try simp only [Act.put, sA, zA, cA]
  have HY2 : Hd (y2.own W1.heap.size wBEsz) := hy0.o.base HZ.o.size
  have HE2 := he0
  have HCn : Hd (Cp W1.heap.size wBEsz.heap.size (y1.fp ++ y2.fp)) := HC.o.app hc HZ.o.size hb2.size
  have HNZn : Hd (∀ q ∈ y1.fp ++ y2.fp, q ≠ gz) := fun q hq => (List.mem_append.1 hq).elim (HNZ.o q) fun hq => by have := (hc.i q hq).1; have := HOZ.o.1; omega
  have HBn := iH (bl_trans HB.o hb2)
  have HXn := iH (HX.o.below hb2)
  have HOn := iH (HO.o.below hb2)
  have HZn := iH (bl_trans HZ.o hb2)
  have HY1n := iH (HY1.o.upper (uB hb2))
  have HOZn := iH (HOZ.o.below hb2)
  clear HB HX HO HZ HY1 HOZ hb2 hb0 hc0 hc hy0 he0 HS
  have HB := HBn
  have HX := HXn
  have HO := HOn
  have HZ := HZn
  have HY1 := HY1n
  have HOZ := HOZn
  clear HBn HXn HOn HZn HY1n HOZn
  clear HC
  clear HNZ
  have HC := HCn
  clear HCn
  have HNZ := HNZn
  clear HNZn
  rotate_left
  refine rqA 8 fun K hK => ?_
  refine step_app80 rfl (.tmp 11) (.tmp 13) 14 rfl rfl bs HS.o rfl d.v rfl (iH (HV.o.upper (uB HB.o))) ?_
  intro y2 wBEsz hy0 hc0 he0 hb0
  have hb2 := hb0.o
  have hc := hc0.o
  clear hHeld
  refine hK.out _ _ ?_ fun hHeld => ?_
  · exact ⟨bl_trans HB.o hb2, HX.o.below hb2⟩
  clear hK K
  try simp only [Act.put, sA, zA, cA]
  have HY2 : Hd (y2.own W1.heap.size wBEsz) := hy0.o.base HZ.o.size
  have HE2 := he0
  have HCn : Hd (Cp W1.heap.size wBEsz.heap.size (y1.fp ++ y2.fp)) := HC.o.app hc HZ.o.size hb2.size
  have HNZn : Hd (∀ q ∈ y1.fp ++ y2.fp, q ≠ gz) := fun q hq => (List.mem_append.1 hq).elim (HNZ.o q) fun hq => by have := (hc.i q hq).1; have := HOZ.o.1; omega
  have HBn := iH (bl_trans HB.o hb2)
  have HXn := iH (HX.o.below hb2)
  have HOn := iH (HO.o.below hb2)
  have HZn := iH (bl_trans HZ.o hb2)
  have HY1n := iH (HY1.o.upper (uB hb2))
  have HOZn := iH (HOZ.o.below hb2)
  clear HB HX HO HZ HY1 HOZ hb2 hb0 hc0 hc hy0 he0 HS
  have HB := HBn
  have HX := HXn
  have HO := HOn
  have HZ := HZn
  have HY1 := HY1n
  have HOZ := HOZn
  clear HBn HXn HOn HZn HY1n HOZn
  clear HC
  clear HNZ
  have HC := HCn
  clear HCn
  have HNZ := HNZn
  clear HNZn
  rotate_left
  refine rqA 8 fun K hK => ?_
  refine step_app80 rfl (.tmp 11) (.tmp 13) 14 rfl rfl bs HS.o rfl d.v rfl (iH (HV.o.upper (uB HB.o))) ?_
  intro y2 wBEsz hy0 hc0 he0 hb0
  have hb2 := hb0.o
  have hc := hc0.o
  clear hHeld
  refine hK.out _ _ ?_ fun hHeld => ?_
  · exact ⟨bl_trans HB.o hb2, HX.o.below hb2⟩
  clear hK K
  try simp only [Act.put, sA, zA, cA]
  have HY2 : Hd (y2.own W1.heap.size wBEsz) := hy0.o.base HZ.o.size
  have HE2 := he0
  have HCn : Hd (Cp W1.heap.size wBEsz.heap.size (y1.fp ++ y2.fp)) := HC.o.app hc HZ.o.size hb2.size
  have HNZn : Hd (∀ q ∈ y1.fp ++ y2.fp, q ≠ gz) := fun q hq => (List.mem_append.1 hq).elim (HNZ.o q) fun hq => by have := (hc.i q hq).1; have := HOZ.o.1; omega
  have HBn := iH (bl_trans HB.o hb2)
  have HXn := iH (HX.o.below hb2)
  have HOn := iH (HO.o.below hb2)
  have HZn := iH (bl_trans HZ.o hb2)
  have HY1n := iH (HY1.o.upper (uB hb2))
  have HOZn := iH (HOZ.o.below hb2)
  clear HB HX HO HZ HY1 HOZ hb2 hb0 hc0 hc hy0 he0 HS
  have HB := HBn
  have HX := HXn
  have HO := HOn
  have HZ := HZn
  have HY1 := HY1n
  have HOZ := HOZn
  clear HBn HXn HOn HZn HY1n HOZn
  clear HC
  clear HNZ
  have HC := HCn
  clear HCn
  have HNZ := HNZn
  clear HNZn
  rotate_left
  refine rqA 13 fun K hK => ?_
  clear hHeld
  go_simp
  refine hK.out _ _ ?_ fun hHeld => ?_
  · exact ⟨bl_alloc HB.o _, HX.o.below (bl_a _)⟩
  clear hK K
  try simp only [Act.put, sA, zA, cA]
  have HNZ : Hd (∀ q ∈ y1.fp ++ y2.fp ++ tfp y3.a y3.l, q ≠ wBETs.heap.size) := fun q hq => by have := (HC.o.i q hq).2; omega
  have hb2 : Bl wBETs (wBETs.alloc (.cells zGa 52)) := bl_a _
  have HOZ := iH (OB.new wBETs zGa 52)
  have HGZ : Hd (W1.heap.size ≤ wBETs.heap.size) := HZ.o.size
  obtain ⟨gz, hgz⟩ : ∃ b, b = wBETs.heap.size := ⟨_, rfl⟩
  rw [← hgz] at HOZ HGZ HNZ ⊢
  clear hgz
  generalize wBETs.alloc (.cells zGa 52) = wBETsz at *
  have HBn := iH (bl_trans HB.o hb2)
  have HXn := iH (HX.o.below hb2)
  have HOn := iH (HO.o.below hb2)
  have HZn := iH (bl_trans HZ.o hb2)
  have HY1n := iH (HY1.o.upper (uB hb2))
  have HY2n := iH (HY2.o.upper (uB hb2))
  have HY3n := iH (HY3.o.upper (uB hb2))
  have HCn := iH (HC.o.mono nR hb2.size)
  clear HB HX HO HZ HY1 HY2 HY3 HC hb2
  have HB := HBn
  have HX := HXn
  have HO := HOn
  have HZ := HZn
  have HY1 := HY1n
  have HY2 := HY2n
  have HY3 := HY3n
  have HC := HCn
  clear HBn HXn HOn HZn HY1n HY2n HY3n HCn
  rotate_left
  refine rqA 11 fun K hK => ?_
  go_simp
  refine (HTS.o _ HB.o).mono ?_
  rintro r wBETsz ⟨y3, rfl, hy, hc, he, hb2⟩
  clear hHeld
  have HE3 := iH he
  have HY3 : Hd (y3.own W1.heap.size wBETsz) := hy.base HZ.o.size
  have HCn : Hd (Cp W1.heap.size wBETsz.heap.size (y1.fp ++ y2.fp ++ tfp y3.a y3.l)) := HC.o.app hc HZ.o.size hb2.size
  have HNZn : Hd (∀ q ∈ y1.fp ++ y2.fp ++ tfp y3.a y3.l, q ≠ gz) := fun q hq => (List.mem_append.1 hq).elim (HNZ.o q) fun hq => by have := (hc.i q hq).1; have := HOZ.o.1; omega
  have HBn := iH (bl_trans HB.o hb2)
  have HXn := iH (HX.o.below hb2)
  have HOn := iH (HO.o.below hb2)
  have HZn := iH (bl_trans HZ.o hb2)
  have HY1n := iH (HY1.o.upper (uB hb2))
  have HY2n := iH (HY2.o.upper (uB hb2))
  have HOZn := iH (HOZ.o.below hb2)
  refine hK.out _ _ ?_ fun hHeld => ?_
  · exact ⟨HBn.o, HXn.o⟩
  clear hK K
  try simp only [Act.put, sA, zA, cA]
  clear HB HX HO HZ HY1 HY2 HOZ hb2 hy hc he
  have HB := HBn
  have HX := HXn
  have HO := HOn
  have HZ := HZn
  have HY1 := HY1n
  have HY2 := HY2n
  have HOZ := HOZn
  clear HBn HXn HOn HZn HY1n HY2n HOZn
  clear HC
  clear HNZ
  have HC := HCn
  clear HCn
  have HNZ := HNZn
  clear HNZn
  refine tqB 12 18 (v := .agg (gA d.k (.slice none 0 0) y1.d y2 (.slice y3.a y3.l.length y3.c) (.slice none 0 0))) ?_
  rotate_left
  refine rqA 11 fun K hK => ?_
  go_simp
  refine (HTS.o _ HB.o).mono ?_
  rintro r wBETsz ⟨y3, rfl, hy, hc, he, hb2⟩
  clear hHeld
  have HE3 := iH he
  have HY3 : Hd (y3.own W1.heap.size wBETsz) := hy.base HZ.o.size
  have HCn : Hd (Cp W1.heap.size wBETsz.heap.size (y1.fp ++ y2.fp ++ tfp y3.a y3.l)) := HC.o.app hc HZ.o.size hb2.size
  have HNZn : Hd (∀ q ∈ y1.fp ++ y2.fp ++ tfp y3.a y3.l, q ≠ gz) := fun q hq => (List.mem_append.1 hq).elim (HNZ.o q) fun hq => by have := (hc.i q hq).1; have := HOZ.o.1; omega
  have HBn := iH (bl_trans HB.o hb2)
  have HXn := iH (HX.o.below hb2)
  have HOn := iH (HO.o.below hb2)
  have HZn := iH (bl_trans HZ.o hb2)
  have HY1n := iH (HY1.o.upper (uB hb2))
  have HY2n := iH (HY2.o.upper (uB hb2))
  have HOZn := iH (HOZ.o.below hb2)
  refine hK.out _ _ ?_ fun hHeld => ?_
  · exact ⟨HBn.o, HXn.o⟩
  clear hK K
  try simp only [Act.put, sA, zA, cA]
  clear HB HX HO HZ HY1 HY2 HOZ hb2 hy hc he
  have HB := HBn
  have HX := HXn
  have HO := HOn
  have HZ := HZn
  have HY1 := HY1n
  have HY2 := HY2n
  have HOZ := HOZn
  clear HBn HXn HOn HZn HY1n HY2n HOZn
  clear HC
  clear HNZ
  have HC := HCn
  clear HCn
  have HNZ := HNZn
  clear HNZn
  refine tqB 12 18 (v := .agg (gA d.k (.slice none 0 0) y1.d y2 (.slice y3.a y3.l.length y3.c) (.slice none 0 0))) ?_
  rotate_left
  refine rqA 11 fun K hK => ?_
  go_simp
  refine (HTS.o _ HB.o).mono ?_
  rintro r wBETsz ⟨y3, rfl, hy, hc, he, hb2⟩
  clear hHeld
  have HE3 := iH he
  have HY3 : Hd (y3.own W1.heap.size wBETsz) := hy.base HZ.o.size
  have HCn : Hd (Cp W1.heap.size wBETsz.heap.size (y1.fp ++ y2.fp ++ tfp y3.a y3.l)) := HC.o.app hc HZ.o.size hb2.size
  have HNZn : Hd (∀ q ∈ y1.fp ++ y2.fp ++ tfp y3.a y3.l, q ≠ gz) := fun q hq => (List.mem_append.1 hq).elim (HNZ.o q) fun hq => by have := (hc.i q hq).1; have := HOZ.o.1; omega
  have HBn := iH (bl_trans HB.o hb2)
  have HXn := iH (HX.o.below hb2)
  have HOn := iH (HO.o.below hb2)
  have HZn := iH (bl_trans HZ.o hb2)
  have HY1n := iH (HY1.o.upper (uB hb2))
  have HY2n := iH (HY2.o.upper (uB hb2))
  have HOZn := iH (HOZ.o.below hb2)
  refine hK.out _ _ ?_ fun hHeld => ?_
  · exact ⟨HBn.o, HXn.o⟩
  clear hK K
  try simp only [Act.put, sA, zA, cA]
  clear HB HX HO HZ HY1 HY2 HOZ hb2 hy hc he
  have HB := HBn
  have HX := HXn
  have HO := HOn
  have HZ := HZn
  have HY1 := HY1n
  have HY2 := HY2n
  have HOZ := HOZn
  clear HBn HXn HOn HZn HY1n HY2n HOZn
  clear HC
  clear HNZ
  have HC := HCn
  clear HCn
  have HNZ := HNZn
  clear HNZn
  refine tqB 12 18 (v := .agg (gA d.k (.slice none 0 0) y1.d y2 (.slice y3.a y3.l.length y3.c) (.slice none 0 0))) ?_
  rotate_left
  refine rqA 13 fun K hK => ?_
  clear hHeld
  go_simp
  refine hK.out _ _ ?_ fun hHeld => ?_
  · exact ⟨bl_alloc HB.o _, HX.o.below (bl_a _)⟩
  clear hK K
  try simp only [Act.put, sA, zA, cA]
  have HNZ : Hd (∀ q ∈ y1.fp ++ y2.fp ++ tfp y3.a y3.l, q ≠ wBETs.heap.size) := fun q hq => by have := (HC.o.i q hq).2; omega
  have hb2 : Bl wBETs (wBETs.alloc (.cells zGa 52)) := bl_a _
  have HOZ := iH (OB.new wBETs zGa 52)
  have HGZ : Hd (W1.heap.size ≤ wBETs.heap.size) := HZ.o.size
  obtain ⟨gz, hgz⟩ : ∃ b, b = wBETs.heap.size := ⟨_, rfl⟩
  rw [← hgz] at HOZ HGZ HNZ ⊢
  clear hgz
  generalize wBETs.alloc (.cells zGa 52) = wBETsz at *
  have HBn := iH (bl_trans HB.o hb2)
  have HXn := iH (HX.o.below hb2)
  have HOn := iH (HO.o.below hb2)
  have HZn := iH (bl_trans HZ.o hb2)
  have HY1n := iH (HY1.o.upper (uB hb2))
  have HY2n := iH (HY2.o.upper (uB hb2))
  have HY3n := iH (HY3.o.upper (uB hb2))
  have HCn := iH (HC.o.mono nR hb2.size)
  clear HB HX HO HZ HY1 HY2 HY3 HC hb2
  have HB := HBn
  have HX := HXn
  have HO := HOn
  have HZ := HZn
  have HY1 := HY1n
  have HY2 := HY2n
  have HY3 := HY3n
  have HC := HCn
  clear HBn HXn HOn HZn HY1n HY2n HY3n HCn
  rotate_left
  refine rqA 11 fun K hK => ?_
  go_simp
  refine (HTS.o _ HB.o).mono ?_
  rintro r wBETsz ⟨y3, rfl, hy, hc, he, hb2⟩
  clear hHeld
  have HE3 := iH he
  have HY3 : Hd (y3.own W1.heap.size wBETsz) := hy.base HZ.o.size
  have HCn : Hd (Cp W1.heap.size wBETsz.heap.size (y1.fp ++ y2.fp ++ tfp y3.a y3.l)) := HC.o.app hc HZ.o.size hb2.size
  have HNZn : Hd (∀ q ∈ y1.fp ++ y2.fp ++ tfp y3.a y3.l, q ≠ gz) := fun q hq => (List.mem_append.1 hq).elim (HNZ.o q) fun hq => by have := (hc.i q hq).1; have := HOZ.o.1; omega
  have HBn := iH (bl_trans HB.o hb2)
  have HXn := iH (HX.o.below hb2)
  have HOn := iH (HO.o.below hb2)
  have HZn := iH (bl_trans HZ.o hb2)
  have HY1n := iH (HY1.o.upper (uB hb2))
  have HY2n := iH (HY2.o.upper (uB hb2))
  have HOZn := iH (HOZ.o.below hb2)
  refine hK.out _ _ ?_ fun hHeld => ?_
  · exact ⟨HBn.o, HXn.o⟩
  clear hK K
  try simp only [Act.put, sA, zA, cA]
  clear HB HX HO HZ HY1 HY2 HOZ hb2 hy hc he
  have HB := HBn
  have HX := HXn
  have HO := HOn
  have HZ := HZn
  have HY1 := HY1n
  have HY2 := HY2n
  have HOZ := HOZn
  clear HBn HXn HOn HZn HY1n HY2n HOZn
  clear HC
  clear HNZ
  have HC := HCn
  clear HCn
  have HNZ := HNZn
  clear HNZn
  refine tqB 12 18 (v := .agg (gA d.k (.slice none 0 0) y1.d y2 (.slice y3.a y3.l.length y3.c) (.slice none 0 0))) ?_
  rotate_left
  refine rqA 11 fun K hK => ?_
  go_simp
  refine (HTS.o _ HB.o).mono ?_
  rintro r wBETsz ⟨y3, rfl, hy, hc, he, hb2⟩
  clear hHeld
  have HE3 := iH he
  have HY3 : Hd (y3.own W1.heap.size wBETsz) := hy.base HZ.o.size
  have HCn : Hd (Cp W1.heap.size wBETsz.heap.size (y1.fp ++ y2.fp ++ tfp y3.a y3.l)) := HC.o.app hc HZ.o.size hb2.size
  have HNZn : Hd (∀ q ∈ y1.fp ++ y2.fp ++ tfp y3.a y3.l, q ≠ gz) := fun q hq => (List.mem_append.1 hq).elim (HNZ.o q) fun hq => by have := (hc.i q hq).1; have := HOZ.o.1; omega
  have HBn := iH (bl_trans HB.o hb2)
  have HXn := iH (HX.o.below hb2)
  have HOn := iH (HO.o.below hb2)
  have HZn := iH (bl_trans HZ.o hb2)
  have HY1n := iH (HY1.o.upper (uB hb2))
  have HY2n := iH (HY2.o.upper (uB hb2))
  have HOZn := iH (HOZ.o.below hb2)
  refine hK.out _ _ ?_ fun hHeld => ?_
  · exact ⟨HBn.o, HXn.o⟩
  clear hK K
  try simp only [Act.put, sA, zA, cA]
  clear HB HX HO HZ HY1 HY2 HOZ hb2 hy hc he
  have HB := HBn
  have HX := HXn
  have HO := HOn
  have HZ := HZn
  have HY1 := HY1n
  have HY2 := HY2n
  have HOZ := HOZn
  clear HBn HXn HOn HZn HY1n HY2n HOZn
  clear HC
  clear HNZ
  have HC := HCn
  clear HCn
  have HNZ := HNZn
  clear HNZn
  refine tqB 12 18 (v := .agg (gA d.k (.slice none 0 0) y1.d y2 (.slice y3.a y3.l.length y3.c) (.slice none 0 0))) ?_
  rotate_left
  refine rqA 11 fun K hK => ?_
  go_simp
  refine (HTS.o _ HB.o).mono ?_
  rintro r wBETsz ⟨y3, rfl, hy, hc, he, hb2⟩
  clear hHeld
  have HE3 := iH he
  have HY3 : Hd (y3.own W1.heap.size wBETsz) := hy.base HZ.o.size
  have HCn : Hd (Cp W1.heap.size wBETsz.heap.size (y1.fp ++ y2.fp ++ tfp y3.a y3.l)) := HC.o.app hc HZ.o.size hb2.size
  have HNZn : Hd (∀ q ∈ y1.fp ++ y2.fp ++ tfp y3.a y3.l, q ≠ gz) := fun q hq => (List.mem_append.1 hq).elim (HNZ.o q) fun hq => by have := (hc.i q hq).1; have := HOZ.o.1; omega
  have HBn := iH (bl_trans HB.o hb2)
  have HXn := iH (HX.o.below hb2)
  have HOn := iH (HO.o.below hb2)
  have HZn := iH (bl_trans HZ.o hb2)
  have HY1n := iH (HY1.o.upper (uB hb2))
  have HY2n := iH (HY2.o.upper (uB hb2))
  have HOZn := iH (HOZ.o.below hb2)
  refine hK.out _ _ ?_ fun hHeld => ?_
  · exact ⟨HBn.o, HXn.o⟩
  clear hK K
  try simp only [Act.put, sA, zA, cA]
  clear HB HX HO HZ HY1 HY2 HOZ hb2 hy hc he
  have HB := HBn
  have HX := HXn
  have HO := HOn
  have HZ := HZn
  have HY1 := HY1n
  have HY2 := HY2n
  have HOZ := HOZn
  clear HBn HXn HOn HZn HY1n HY2n HOZn
  clear HC
  clear HNZ
  have HC := HCn
  clear HCn
  have HNZ := HNZn
  clear HNZn
  refine tqB 12 18 (v := .agg (gA d.k (.slice none 0 0) y1.d y2 (.slice y3.a y3.l.length y3.c) (.slice none 0 0))) ?_
  rotate_left
  refine rqA 11 fun K hK => ?_
  go_simp
  refine (HTS.o _ HB.o).mono ?_
  rintro r wBETsz ⟨y3, rfl, hy, hc, he, hb2⟩
  clear hHeld
  have HE3 := iH he
  have HY3 : Hd (y3.own W1.heap.size wBETsz) := hy.base HZ.o.size
  have HCn : Hd (Cp W1.heap.size wBETsz.heap.size (y1.fp ++ y2.fp ++ tfp y3.a y3.l)) := HC.o.app hc HZ.o.size hb2.size
  have HNZn : Hd (∀ q ∈ y1.fp ++ y2.fp ++ tfp y3.a y3.l, q ≠ gz) := fun q hq => (List.mem_append.1 hq).elim (HNZ.o q) fun hq => by have := (hc.i q hq).1; have := HOZ.o.1; omega
  have HBn := iH (bl_trans HB.o hb2)
  have HXn := iH (HX.o.below hb2)
  have HOn := iH (HO.o.below hb2)
  have HZn := iH (bl_trans HZ.o hb2)
  have HY1n := iH (HY1.o.upper (uB hb2))
  have HY2n := iH (HY2.o.upper (uB hb2))
  have HOZn := iH (HOZ.o.below hb2)
  refine hK.out _ _ ?_ fun hHeld => ?_
  · exact ⟨HBn.o, HXn.o⟩
  clear hK K
  try simp only [Act.put, sA, zA, cA]
  clear HB HX HO HZ HY1 HY2 HOZ hb2 hy hc he
  have HB := HBn
  have HX := HXn
  have HO := HOn
  have HZ := HZn
  have HY1 := HY1n
  have HY2 := HY2n
  have HOZ := HOZn
  clear HBn HXn HOn HZn HY1n HY2n HOZn
  clear HC
  clear HNZ
  have HC := HCn
  clear HCn
  have HNZ := HNZn
  clear HNZn
  refine tqB 12 18 (v := .agg (gA d.k (.slice none 0 0) y1.d y2 (.slice y3.a y3.l.length y3.c) (.slice none 0 0))) ?_
  rotate_left
  refine rqA 11 fun K hK => ?_
  go_simp
  refine (HTS.o _ HB.o).mono ?_
  rintro r wBETsz ⟨y3, rfl, hy, hc, he, hb2⟩
  clear hHeld
  have HE3 := iH he
  have HY3 : Hd (y3.own W1.heap.size wBETsz) := hy.base HZ.o.size
  have HCn : Hd (Cp W1.heap.size wBETsz.heap.size (y1.fp ++ y2.fp ++ tfp y3.a y3.l)) := HC.o.app hc HZ.o.size hb2.size
  have HNZn : Hd (∀ q ∈ y1.fp ++ y2.fp ++ tfp y3.a y3.l, q ≠ gz) := fun q hq => (List.mem_append.1 hq).elim (HNZ.o q) fun hq => by have := (hc.i q hq).1; have := HOZ.o.1; omega
  have HBn := iH (bl_trans HB.o hb2)
  have HXn := iH (HX.o.below hb2)
  have HOn := iH (HO.o.below hb2)
  have HZn := iH (bl_trans HZ.o hb2)
  have HY1n := iH (HY1.o.upper (uB hb2))
  have HY2n := iH (HY2.o.upper (uB hb2))
  have HOZn := iH (HOZ.o.below hb2)
  refine hK.out _ _ ?_ fun hHeld => ?_
  · exact ⟨HBn.o, HXn.o⟩
  clear hK K
  try simp only [Act.put, sA, zA, cA]
  clear HB HX HO HZ HY1 HY2 HOZ hb2 hy hc he
  have HB := HBn
  have HX := HXn
  have HO := HOn
  have HZ := HZn
  have HY1 := HY1n
  have HY2 := HY2n
  have HOZ := HOZn
  clear HBn HXn HOn HZn HY1n HY2n HOZn
  clear HC
  clear HNZ
  have HC := HCn
  clear HCn
  have HNZ := HNZn
  clear HNZn
  refine tqB 12 18 (v := .agg (gA d.k (.slice none 0 0) y1.d y2 (.slice y3.a y3.l.length y3.c) (.slice none 0 0))) ?_
  rotate_left
  all_goals
   have st : wBETsz.there gz 0 13 := HOZ.o.there 0 13 (by simp)
   have on : ((gA d.k (.slice none 0 0) y1.d y2 (.slice y3.a y3.l.length y3.c) (.slice none 0 0)) : Array Value).all (·.oneCell') = true := all_oneCell_toArray (cs := (gL d.k (.slice none 0 0) y1.d y2 (.slice y3.a y3.l.length y3.c) (.slice none 0 0))) (by simp [Value.oneCell'])
   have hob := iH (HOZ.o.put (gL d.k (.slice none 0 0) y1.d y2 (.slice y3.a y3.l.length y3.c) (.slice none 0 0)) 0 (gL d.k (.slice none 0 0) y1.d y2 (.slice y3.a y3.l.length y3.c) (.slice none 0 0)) (by simp) rfl)
   have hpa := iH (but_sets gz (gL d.k (.slice none 0 0) y1.d y2 (.slice y3.a y3.l.length y3.c) (.slice none 0 0)) 0 wBETsz)
   refine rqA 14 fun K hK => ?_
   refine step_storeV 52 gz 0 (gA d.k (.slice none 0 0) y1.d y2 (.slice y3.a y3.l.length y3.c) (.slice none 0 0)) st on ?_
   clear hHeld
   have hgw : w.heap.size + 1 < gz := Nat.lt_of_lt_of_le HG.o HGZ.o
   refine hK.out _ _ ?_ fun hHeld => ?_
   · exact ⟨below_sets (w0 := w) gz (by omega) _ 0 _ HB.o, HX.o.upper hpa.o (by omega)⟩
   clear hK K st on hHeld
   try simp only [Act.put]
   have hbz := iH (below_sets (w0 := W1) gz HGZ.o (gL d.k (.slice none 0 0) y1.d y2 (.slice y3.a y3.l.length y3.c) (.slice none 0 0)) 0 wBETsz HZ.o)
   generalize wBETsz.setCells gz 0 (gL d.k (.slice none 0 0) y1.d y2 (.slice y3.a y3.l.length y3.c) (.slice none 0 0)) = W5 at *
   refine wpAnyH_done (by kernel_rfl) ?_ _
   go_wp2_with fail
   go_meet
   exact ⟨gz, y1, y2, y3, rfl, hob, algOut HY1.o HY2.o HY3.o hpa.o HC.o HNZ.o, HGZ, HE1, HE2, HE3, hbz⟩
 obtain ⟨g, y1, y2, y3, rfl, HOB, HTW, HGZ, HE1, HE2, HE3, HZ2⟩ := hcut
 obtain ⟨W2, hW2⟩ : ∃ W, W = wc := ⟨_, rfl⟩
 subst hW2
 go_wp2_with fail
 go_loopw [4] (fun i wr => ∃ (j : Nat) (v : Value) (k' : Nat → PB), j ≤ d.pn ∧ i = .int .i64 j ∧ Hd (Gath PB.cells PB.fp (fun x W => x.own W2.heap.size W) 39 15 W2.heap.size g 1 [.int .i64 d.k, .slice none 0 0, .int .i64 y1.d.k, .int .i64 y1.d.op, .slice y1.d.v.a y1.d.v.len y1.d.v.cap, .int .i64 y1.d.t.t.k, .slice y1.d.t.t.a y1.d.t.t.len y1.d.t.t.cap, .int .i64 y1.d.t.t.n, .int .i64 y1.d.t.t.s, .slice y1.d.ka y1.d.n y1.d.kc, .slice y2.a y2.len y2.cap, .slice y3.a y3.l.length y3.c, .slice none 0 0] (y1.fp ++ y2.fp ++ tfp y3.a y3.l) W1 W2 wr v j k') ∧ Hd (∀ i, i < j → (d.pat i).same (k' i)))
  (fun i _ => d.pn - (intOf i).toNat)
 case atStart => exact ⟨0, _, d.pat, nZ, rfl, Gath.nil HZ2.o HOB.o HGZ.o (fun q hq => ⟨(HTW.o.cp.i q hq).2, fun e => HTW.o.n (e ▸ hq)⟩), fun i hi => absurd hi nN⟩
 obtain ⟨j, v, k', hj, rfl, HQ, HS⟩ := hrel
 have HXr := iH (HX.o.below HQ.o.bel)
 have HBr := iH (bl_trans HB.o HQ.o.bel)
 have cx := HXr.o.2 1 _ rfl
 by_cases hlj : j < d.pn
 · obtain ⟨b, off, hka, _, hlt, hc⟩ := HRp.o.resolve_left (by omega)
   have HC : Hd (∀ W, Bl w W → W.rangeAt b (off + j * 15) (d.pat j).cl) := fun W hb c u hu => (hb.cell (p := ⟨b, off + j * 15 + c, none⟩) hlt).trans (hc j hlj c u hu)
   have HXs : Hd (Box wr w.heap.size (gL d.k (.slice (some ⟨b, off, none⟩) d.pn d.pc) d.e.d d.v (.slice d.ta d.tb.length d.tc) (.slice d.ka d.n d.kc))) := (show Box _ _ _ by have h := HXr.o; rwa [hka] at h)
   rw [hka] at cx
   clear hc hlt hka HXr
   go_wp2_with fail
   clear cx
   refine wqd (fun w' => Bl w w' ∧ Box w' w.heap.size (gL d.k (.slice (some ⟨b, off, none⟩) d.pn d.pc) d.e.d d.v (.slice d.ta d.tb.length d.tc) (.slice d.ka d.n d.kc))) ?_ fun hHeld => ?_
   · exact ⟨Below.drew HBr.o, HXs.o.below bdr⟩
   have HQ2 := iH (HQ.o.below (okPB _) bdr)
   have HB2 : Hd (Bl w wr.drew) := Below.drew HBr.o
   have HX2 := iH (HXs.o.below bdr)
   clear HQ HBr HXs
   have HQ := HQ2
   clear HQ2
   generalize wr.drew = w_ at *
   refine tqB 0 26 ?_
   refine tqB 2 28 ?_
   refine tqB 3 29 (v := .slice (some ⟨b, off, none⟩) d.pn d.pc) (hy := by intro w' hSw; have c0 := hSw.2.2 1 _ rfl; go_simp; (try with_reducible rfl)) ?_
   refine tqB 4 30 (v := .int .i64 j) ?_
   refine tqB 5 31 (v := .pointer (some ⟨b, off + j * 15, none⟩)) ?_
   refine ldq 6 32 Tryz.underlying39 (fun w' h => HC.o w' h.1) ?_
   refine wpAnyH_ready (rs := [1, 7]) (by kernel_rfl) (by simp) ?_
   refine AllReadyH.cons rfl (fun K hK => ?_) (AllReadyH.cons rfl (fun K hK => ?_) (AllReadyH.nil))
   clear hHeld
   have cv := (HQ.o.box.2 1 v rfl).1
   go_simp
   refine hK.out _ _ ?_ fun hHeld => ?_
   · exact ⟨HB2.o, HX2.o⟩
   clear hK K cv
   try simp only [Act.put, sA, zA, cA]
   rotate_left
   go_simp
   refine (HIp.o j hlj _ HB2.o).mono ?_
   rintro r wC ⟨y, rfl, hy, hc, he, hb2⟩
   clear hHeld
   have HE := iH he
   have HY := iH (HQ.o.call (okPB _) hb2 (hy.base HQ.o.hM) hc)
   have HB3 := iH (bl_trans HB2.o hb2)
   have HX3 := iH (HX2.o.below hb2)
   clear hy hc he hb2 HQ HB2 HX2
   have HB2 := HB3
   have HX2 := HX3
   clear HB3 HX3
   refine hK.out _ _ ?_ fun hHeld => ?_
   · exact ⟨HB2.o, HX2.o⟩
   clear hK K
   try simp only [Act.put, sA, zA, cA]
   rotate_left
   refine rqA 7 fun K hK => ?_
   go_simp
   refine (HIp.o j hlj _ HB2.o).mono ?_
   rintro r wC ⟨y, rfl, hy, hc, he, hb2⟩
   clear hHeld
   have HE := iH he
   have HY := iH (HQ.o.call (okPB _) hb2 (hy.base HQ.o.hM) hc)
   have HB3 := iH (bl_trans HB2.o hb2)
   have HX3 := iH (HX2.o.below hb2)
   clear hy hc he hb2 HQ HB2 HX2
   have HB2 := HB3
   have HX2 := HX3
   clear HB3 HX3
   refine hK.out _ _ ?_ fun hHeld => ?_
   · exact ⟨HB2.o, HX2.o⟩
   clear hK K
   try simp only [Act.put, sA, zA, cA]
   rotate_left
   refine wpAnyH_ready (rs := [1, 8]) (by kernel_rfl) (by simp) ?_
   refine AllReadyH.cons rfl (fun K hK => ?_) (AllReadyH.cons rfl (fun K hK => ?_) (AllReadyH.nil))
   clear hHeld
   have cv := (HY.o.g.box.2 1 v rfl).1
   go_simp
   refine hK.out _ _ ?_ fun hHeld => ?_
   · exact ⟨HB2.o, HX2.o⟩
   clear hK K cv
   try simp only [Act.put, sA, zA, cA]
   rotate_left
   clear hHeld
   go_simp
   refine hK.out _ _ ?_ fun hHeld => ?_
   · exact ⟨bl_alloc HB2.o _, HX2.o.below (bl_a _)⟩
   clear hK K
   try simp only [Act.put, sA, zA, cA]
   have HN : Hd (∀ j u, (y.cl : List Value)[j]? = some u → (wC.alloc (.cells y.ar 39)).cell? ((⟨wC.heap.size, 0, none⟩ : Addr).add j) = some u) := fun j u hu => World.news_of_block (Go.heap_alloc_new _ _) j u hu
   have HY3 := iH (HY.o.below (okPB _) (bl_a (w := wC) (.cells y.ar 39)))
   have HB3 := iH (bl_alloc HB2.o (.cells y.ar 39))
   have HX3 := iH (HX2.o.below (bl_a (w := wC) (.cells y.ar 39)))
   clear HY HB2 HX2
   have HY := HY3
   have HB2 := HB3
   have HX2 := HX3
   clear HY3 HB3 HX3
   obtain ⟨gb, hgb⟩ : ∃ b, b = wC.heap.size := ⟨_, rfl⟩
   rw [← hgb] at HN ⊢
   clear hgb
   generalize wC.alloc (.cells y.ar 39) = wB at *
   rotate_left
   refine rqA 8 fun K hK => ?_
   clear hHeld
   go_simp
   refine hK.out _ _ ?_ fun hHeld => ?_
   · exact ⟨bl_alloc HB2.o _, HX2.o.below (bl_a _)⟩
   clear hK K
   try simp only [Act.put, sA, zA, cA]
   have HN : Hd (∀ j u, (y.cl : List Value)[j]? = some u → (wC.alloc (.cells y.ar 39)).cell? ((⟨wC.heap.size, 0, none⟩ : Addr).add j) = some u) := fun j u hu => World.news_of_block (Go.heap_alloc_new _ _) j u hu
   have HY3 := iH (HY.o.below (okPB _) (bl_a (w := wC) (.cells y.ar 39)))
   have HB3 := iH (bl_alloc HB2.o (.cells y.ar 39))
   have HX3 := iH (HX2.o.below (bl_a (w := wC) (.cells y.ar 39)))
   clear HY HB2 HX2
   have HY := HY3
   have HB2 := HB3
   have HX2 := HX3
   clear HY3 HB3 HX3
   obtain ⟨gb, hgb⟩ : ∃ b, b = wC.heap.size := ⟨_, rfl⟩
   rw [← hgb] at HN ⊢
   clear hgb
   generalize wC.alloc (.cells y.ar 39) = wB at *
   rotate_left
   refine rqA 8 fun K hK => ?_
   clear hHeld
   go_simp
   refine hK.out _ _ ?_ fun hHeld => ?_
   · exact ⟨bl_alloc HB2.o _, HX2.o.below (bl_a _)⟩
   clear hK K
   try simp only [Act.put, sA, zA, cA]
   have HN : Hd (∀ j u, (y.cl : List Value)[j]? = some u → (wC.alloc (.cells y.ar 39)).cell? ((⟨wC.heap.size, 0, none⟩ : Addr).add j) = some u) := fun j u hu => World.news_of_block (Go.heap_alloc_new _ _) j u hu
   have HY3 := iH (HY.o.below (okPB _) (bl_a (w := wC) (.cells y.ar 39)))
   have HB3 := iH (bl_alloc HB2.o (.cells y.ar 39))
   have HX3 := iH (HX2.o.below (bl_a (w := wC) (.cells y.ar 39)))
   clear HY HB2 HX2
   have HY := HY3
   have HB2 := HB3
   have HX2 := HX3
   clear HY3 HB3 HX3
   obtain ⟨gb, hgb⟩ : ∃ b, b = wC.heap.size := ⟨_, rfl⟩
   rw [← hgb] at HN ⊢
   clear hgb
   generalize wC.alloc (.cells y.ar 39) = wB at *
   rotate_left
   refine rqA 1 fun K hK => ?_
   clear hHeld
   have cv := (HY.o.g.box.2 1 v rfl).1
   go_simp
   refine hK.out _ _ ?_ fun hHeld => ?_
   · exact ⟨HB2.o, HX2.o⟩
   clear hK K cv
   try simp only [Act.put, sA, zA, cA]
   rotate_left
   all_goals
    obtain ⟨kn, hk1, hk2⟩ : ∃ kn : Nat → PB, (∀ i, i < j → kn i = k' i) ∧ kn j = y := ⟨fun i => if i = j then y else k' i, fun i hi => if_neg (by omega), if_pos rfl⟩
    have HK1 := iH hk1
    have HK2 := iH hk2
    clear hk1 hk2
    have HC1 : Hd (∀ i, i < j → (fun i => (kn i).cells) i = (fun i => (k' i).cells) i) := fun i hi => (show (kn i).cells = _ by rw [HK1.o i hi])
    have HC2 : Hd ((fun i => (kn i).cells) j = y.cl) := (show (kn j).cells = _ by rw [HK2.o]; rfl)
    have one1 : ∀ u ∈ (y.cl : List Value), u.oneCell' = true := (by intro u hu; simp only [List.mem_cons, List.not_mem_nil, or_false] at hu; rcases hu with rfl | rfl | rfl | rfl | rfl | rfl | rfl | rfl | rfl | rfl | rfl | rfl | rfl | rfl | rfl <;> rfl)
    have HOW := iH HY.o.g.own
    have hMs := HY.o.g.hM
    have hjn : j ≤ 1048576 := by have := HPN.o; omega
    clear hHeld
    refine rqA 9 fun K hK => ?_
    refine stepCC (.tmp 27) (.tmp 34) 35 49 39 15 216 (.agg zPa) Tryz.underlying49 infoP15 W2.heap.size v j (fun i => (k' i).cells) HOW ⟨gb, 0, none⟩ 1 y.cl HN one1 hjn hMs (fun i => (kn i).cells) HC1 HC2 ?_
    intro g9 c9 w9 HO9 HA9 HG9 HD9
    clear one1 HC1 HC2 HN HOW hMs hjn
    have HB9 : Hd (Bl w w9) := HB2.o.trans (HD9.o.mono (by have := HB.o.size; have := HY.o.g.g0; have := HY.o.g.gM; omega))
    have HX9 : Hd (Box w9 w.heap.size (gL d.k (.slice (some ⟨b, off, none⟩) d.pn d.pc) d.e.d d.v (.slice d.ta d.tb.length d.tc) (.slice d.ka d.n d.kc))) := HX2.o.bel8 HD9.o (by have := HX.o.1; have := HY.o.g.g0; have := HY.o.g.gM; omega)
    refine hK.out _ _ ?_ fun hHeld => ?_
    · exact ⟨HB9.o, HX9.o⟩
    clear hK K
    try simp only [Act.put, sA, zA, cA]
    refine tqB 10 36 ?_
    clear hHeld
    have HGn := iH (HY.o.add (okPB _) HK1.o HK2.o HO9.o HA9.o HG9.o HD9.o)
    have c9 := ((HY.o.g.box.bel8 HD9.o HY.o.g.gM).2 1 v rfl).1
    have f9 := ((HY.o.g.box.bel8 HD9.o HY.o.g.gM).2 1 v rfl).2
    have HGB : Hd (w.heap.size < g) := (show w.heap.size < g by have := HX.o.1; have := HY.o.g.g0; omega)
    refine rqA 11 fun K hK => ?_
    go_simp
    refine hK.out _ _ ?_ fun hHeld => ?_
    · exact ⟨bl_set HB9.o (by show w.heap.size ≤ g; have := HGB.o; omega) _, HX9.o.upper ((But.refl g w9).set 1 _) (by have := HGB.o; omega)⟩
    clear hK K hHeld c9 f9 HY HO9 HA9 HG9 HD9 HB9 HX9 HB2 HX2
    try simp only [Act.put, sA, zA, cA]
    generalize w9.setCell ⟨g, 1, none⟩ _ = wS at *
    refine wpAnyH_done (by kernel_rfl) ?_ _
    have hle9 : d.pn ≤ 1048576 := HPN.o
    go_wp2
    go_roundw
    case rel => exact ⟨j + 1, _, kn, by omega, by go_num, HGn.o, fun i hi => (if e : i = j then (by rw [e, HK2.o]; exact HE.o) else (by rw [HK1.o i (by omega)]; exact HS.o i (by omega)))⟩
    case measure => simp [intOf]; omega
 obtain rfl : j = d.pn := by omega
 obtain ⟨a1, c1, rfl, hcc, hK, hZ, hCp⟩ := HQ.o.fin
 have HKp := iH hK
 have HZp := iH hZ
 have HCp := iH hCp
 have HOp := iH HQ.o.ok
 have HSp := iH HS
 obtain ⟨kp, hkp⟩ : ∃ f : Nat → PB, f = k' := ⟨_, rfl⟩
 subst hkp
 have HOB3 : Hd (OB wr g (gL d.k (.slice a1 d.pn c1) y1.d y2 (.slice y3.a y3.l.length y3.c) (.slice none 0 0))) := HQ.o.box
 have HB3 := iH HQ.o.bel
 have HS3 := iH HQ.o.st
 have HM3 := iH HQ.o.hM
 have HC3 := iH (HTW.o.cp.app HCp.o HZ2.o.size HM3.o)
 have HN3 : Hd (g ∉ (y1.fp ++ y2.fp ++ tfp y3.a y3.l) ++ (rfp a1 d.pn ++ catB (fun i => (kp i).fp) d.pn)) := fun h => (List.mem_append.1 h).elim HTW.o.n fun h => by have := (HCp.o.i g h).1; have := HQ.o.gM; omega
 obtain ⟨W3, hW3⟩ : ∃ W, W = wr := ⟨_, rfl⟩
 subst hW3
 clear hK hZ hCp hcc HQ HS hj hlj HXr HBr HIp
 go_wp2_with fail
 clear cx
 go_loopw [5] (fun i wr => ∃ (j : Nat) (v : Value) (k' : Nat → AT), j ≤ d.n ∧ i = .int .i64 j ∧ Hd (Gath (fun x : AT => x.d.cells) AT.fp (fun x W => x.ow W3.heap.size W) 52 13 W3.heap.size g 12 [.int .i64 d.k, .slice a1 d.pn c1, .int .i64 y1.d.k, .int .i64 y1.d.op, .slice y1.d.v.a y1.d.v.len y1.d.v.cap, .int .i64 y1.d.t.t.k, .slice y1.d.t.t.a y1.d.t.t.len y1.d.t.t.cap, .int .i64 y1.d.t.t.n, .int .i64 y1.d.t.t.s, .slice y1.d.ka y1.d.n y1.d.kc, .slice y2.a y2.len y2.cap, .slice y3.a y3.l.length y3.c, .slice none 0 0] (y1.fp ++ y2.fp ++ tfp y3.a y3.l ++ (rfp a1 d.pn ++ catB (fun i => (kp i).fp) d.pn)) W1 W3 wr v j k') ∧ Hd (∀ i, i < j → (kid i).same (k' i)))
  (fun i _ => d.n - (intOf i).toNat)
 case atStart => exact ⟨0, _, kid, nZ, rfl, Gath.nil HB3.o HOB3.o HGZ.o (fun q hq => ⟨Nat.lt_of_lt_of_le (HC3.o.i q hq).2 nR, fun e => HN3.o (e ▸ hq)⟩), fun i hi => absurd hi nN⟩
 obtain ⟨j, v, k', hj, rfl, HQ, HS⟩ := hrel
 have HXr := iH (HX.o.below HQ.o.bel)
 have HBr := iH (bl_trans HB.o HQ.o.bel)
 have cx := HXr.o.2 12 _ rfl
 by_cases hlj : j < d.n
 · obtain ⟨b, off, hka, _, hlt, hc⟩ := HR.o.resolve_left (by omega)
   have HC : Hd (∀ W, Bl w W → W.rangeAt b (off + j * 13) (kid j).d.cl) := fun W hb c u hu => (hb.cell (p := ⟨b, off + j * 13 + c, none⟩) hlt).trans (hc j hlj c u hu)
   have HXs : Hd (Box wr w.heap.size (gL d.k (.slice d.pa d.pn d.pc) d.e.d d.v (.slice d.ta d.tb.length d.tc) (.slice (some ⟨b, off, none⟩) d.n d.kc))) := (show Box _ _ _ by have h := HXr.o; rwa [hka] at h)
   rw [hka] at cx
   clear hc hlt hka HXr
   go_wp2_with fail
   clear cx
   refine wqd (fun w' => Bl w w' ∧ Box w' w.heap.size (gL d.k (.slice d.pa d.pn d.pc) d.e.d d.v (.slice d.ta d.tb.length d.tc) (.slice (some ⟨b, off, none⟩) d.n d.kc))) ?_ fun hHeld => ?_
   · exact ⟨Below.drew HBr.o, HXs.o.below bdr⟩
   have HQ2 := iH (HQ.o.below (okAT _) bdr)
   have HB2 : Hd (Bl w wr.drew) := Below.drew HBr.o
   have HX2 := iH (HXs.o.below bdr)
   clear HQ HBr HXs
   have HQ := HQ2
   clear HQ2
   generalize wr.drew = w_ at *
   refine tqB 0 44 ?_
   refine tqB 2 46 ?_
   refine tqB 3 47 (v := .slice (some ⟨b, off, none⟩) d.n d.kc) (hy := by intro w' hSw; have c0 := hSw.2.2 12 _ rfl; go_simp; (try with_reducible rfl)) ?_
   refine tqB 4 48 (v := .int .i64 j) ?_
   refine tqB 5 49 (v := .pointer (some ⟨b, off + j * 13, none⟩)) ?_
   refine ldq 6 50 Tryz.underlying52 (fun w' h => HC.o w' h.1) ?_
   refine wpAnyH_ready (rs := [1, 7]) (by kernel_rfl) (by simp) ?_
   refine AllReadyH.cons rfl (fun K hK => ?_) (AllReadyH.cons rfl (fun K hK => ?_) (AllReadyH.nil))
   clear hHeld
   have cv := (HQ.o.box.2 12 v rfl).1
   go_simp
   refine hK.out _ _ ?_ fun hHeld => ?_
   · exact ⟨HB2.o, HX2.o⟩
   clear hK K cv
   try simp only [Act.put, sA, zA, cA]
   rotate_left
   go_simp
   refine (HI.o j hlj _ HB2.o).mono ?_
   rintro r wC ⟨y, rfl, hy, hc, he, hb2⟩
   clear hHeld
   have HE := iH he
   have HY := iH (HQ.o.call (okAT _) hb2 (hy.base HQ.o.hM) hc)
   have HB3 := iH (bl_trans HB2.o hb2)
   have HX3 := iH (HX2.o.below hb2)
   clear hy hc he hb2 HQ HB2 HX2
   have HB2 := HB3
   have HX2 := HX3
   clear HB3 HX3
   refine hK.out _ _ ?_ fun hHeld => ?_
   · exact ⟨HB2.o, HX2.o⟩
   clear hK K
   try simp only [Act.put, sA, zA, cA]
   rotate_left
   refine rqA 7 fun K hK => ?_
   go_simp
   refine (HI.o j hlj _ HB2.o).mono ?_
   rintro r wC ⟨y, rfl, hy, hc, he, hb2⟩
   clear hHeld
   have HE := iH he
   have HY := iH (HQ.o.call (okAT _) hb2 (hy.base HQ.o.hM) hc)
   have HB3 := iH (bl_trans HB2.o hb2)
   have HX3 := iH (HX2.o.below hb2)
   clear hy hc he hb2 HQ HB2 HX2
   have HB2 := HB3
   have HX2 := HX3
   clear HB3 HX3
   refine hK.out _ _ ?_ fun hHeld => ?_
   · exact ⟨HB2.o, HX2.o⟩
   clear hK K
   try simp only [Act.put, sA, zA, cA]
   rotate_left
   refine wpAnyH_ready (rs := [1, 8]) (by kernel_rfl) (by simp) ?_
   refine AllReadyH.cons rfl (fun K hK => ?_) (AllReadyH.cons rfl (fun K hK => ?_) (AllReadyH.nil))
   clear hHeld
   have cv := (HY.o.g.box.2 12 v rfl).1
   go_simp
   refine hK.out _ _ ?_ fun hHeld => ?_
   · exact ⟨HB2.o, HX2.o⟩
   clear hK K cv
   try simp only [Act.put, sA, zA, cA]
   rotate_left
   clear hHeld
   go_simp
   refine hK.out _ _ ?_ fun hHeld => ?_
   · exact ⟨bl_alloc HB2.o _, HX2.o.below (bl_a _)⟩
   clear hK K
   try simp only [Act.put, sA, zA, cA]
   have HN : Hd (∀ j u, (y.d.cl : List Value)[j]? = some u → (wC.alloc (.cells y.d.ar 52)).cell? ((⟨wC.heap.size, 0, none⟩ : Addr).add j) = some u) := fun j u hu => World.news_of_block (Go.heap_alloc_new _ _) j u hu
   have HY3 := iH (HY.o.below (okAT _) (bl_a (w := wC) (.cells y.d.ar 52)))
   have HB3 := iH (bl_alloc HB2.o (.cells y.d.ar 52))
   have HX3 := iH (HX2.o.below (bl_a (w := wC) (.cells y.d.ar 52)))
   clear HY HB2 HX2
   have HY := HY3
   have HB2 := HB3
   have HX2 := HX3
   clear HY3 HB3 HX3
   obtain ⟨gb, hgb⟩ : ∃ b, b = wC.heap.size := ⟨_, rfl⟩
   rw [← hgb] at HN ⊢
   clear hgb
   generalize wC.alloc (.cells y.d.ar 52) = wB at *
   rotate_left
   refine rqA 8 fun K hK => ?_
   clear hHeld
   go_simp
   refine hK.out _ _ ?_ fun hHeld => ?_
   · exact ⟨bl_alloc HB2.o _, HX2.o.below (bl_a _)⟩
   clear hK K
   try simp only [Act.put, sA, zA, cA]
   have HN : Hd (∀ j u, (y.d.cl : List Value)[j]? = some u → (wC.alloc (.cells y.d.ar 52)).cell? ((⟨wC.heap.size, 0, none⟩ : Addr).add j) = some u) := fun j u hu => World.news_of_block (Go.heap_alloc_new _ _) j u hu
   have HY3 := iH (HY.o.below (okAT _) (bl_a (w := wC) (.cells y.d.ar 52)))
   have HB3 := iH (bl_alloc HB2.o (.cells y.d.ar 52))
   have HX3 := iH (HX2.o.below (bl_a (w := wC) (.cells y.d.ar 52)))
   clear HY HB2 HX2
   have HY := HY3
   have HB2 := HB3
   have HX2 := HX3
   clear HY3 HB3 HX3
   obtain ⟨gb, hgb⟩ : ∃ b, b = wC.heap.size := ⟨_, rfl⟩
   rw [← hgb] at HN ⊢
   clear hgb
   generalize wC.alloc (.cells y.d.ar 52) = wB at *
   rotate_left
   refine rqA 8 fun K hK => ?_
   clear hHeld
   go_simp
   refine hK.out _ _ ?_ fun hHeld => ?_
   · exact ⟨bl_alloc HB2.o _, HX2.o.below (bl_a _)⟩
   clear hK K
   try simp only [Act.put, sA, zA, cA]
   have HN : Hd (∀ j u, (y.d.cl : List Value)[j]? = some u → (wC.alloc (.cells y.d.ar 52)).cell? ((⟨wC.heap.size, 0, none⟩ : Addr).add j) = some u) := fun j u hu => World.news_of_block (Go.heap_alloc_new _ _) j u hu
   have HY3 := iH (HY.o.below (okAT _) (bl_a (w := wC) (.cells y.d.ar 52)))
   have HB3 := iH (bl_alloc HB2.o (.cells y.d.ar 52))
   have HX3 := iH (HX2.o.below (bl_a (w := wC) (.cells y.d.ar 52)))
   clear HY HB2 HX2
   have HY := HY3
   have HB2 := HB3
   have HX2 := HX3
   clear HY3 HB3 HX3
   obtain ⟨gb, hgb⟩ : ∃ b, b = wC.heap.size := ⟨_, rfl⟩
   rw [← hgb] at HN ⊢
   clear hgb
   generalize wC.alloc (.cells y.d.ar 52) = wB at *
   rotate_left
   refine rqA 1 fun K hK => ?_
   clear hHeld
   have cv := (HY.o.g.box.2 12 v rfl).1
   go_simp
   refine hK.out _ _ ?_ fun hHeld => ?_
   · exact ⟨HB2.o, HX2.o⟩
   clear hK K cv
   try simp only [Act.put, sA, zA, cA]
   rotate_left
   all_goals
    obtain ⟨kn, hk1, hk2⟩ : ∃ kn : Nat → AT, (∀ i, i < j → kn i = k' i) ∧ kn j = y := ⟨fun i => if i = j then y else k' i, fun i hi => if_neg (by omega), if_pos rfl⟩
    have HK1 := iH hk1
    have HK2 := iH hk2
    clear hk1 hk2
    have HC1 : Hd (∀ i, i < j → (fun i => (kn i).d.cells) i = (fun i => (k' i).d.cells) i) := fun i hi => (show (kn i).d.cells = _ by rw [HK1.o i hi])
    have HC2 : Hd ((fun i => (kn i).d.cells) j = y.d.cl) := (show (kn j).d.cells = _ by rw [HK2.o]; rfl)
    have one1 : ∀ u ∈ (y.d.cl : List Value), u.oneCell' = true := (by intro u hu; simp only [List.mem_cons, List.not_mem_nil, or_false] at hu; rcases hu with rfl | rfl | rfl | rfl | rfl | rfl | rfl | rfl | rfl | rfl | rfl | rfl | rfl <;> rfl)
    have HOW := iH HY.o.g.own
    have hMs := HY.o.g.hM
    have hjn : j ≤ 1048576 := by have := HN0.o; omega
    clear hHeld
    refine rqA 9 fun K hK => ?_
    refine stepCC (.tmp 45) (.tmp 52) 53 50 52 13 216 (.agg zGa) Tryz.underlying50 infoA13 W3.heap.size v j (fun i => (k' i).d.cells) HOW ⟨gb, 0, none⟩ 1 y.d.cl HN one1 hjn hMs (fun i => (kn i).d.cells) HC1 HC2 ?_
    intro g9 c9 w9 HO9 HA9 HG9 HD9
    clear one1 HC1 HC2 HN HOW hMs hjn
    have HB9 : Hd (Bl w w9) := HB2.o.trans (HD9.o.mono (by have := HB.o.size; have := HY.o.g.g0; have := HY.o.g.gM; omega))
    have HX9 : Hd (Box w9 w.heap.size (gL d.k (.slice d.pa d.pn d.pc) d.e.d d.v (.slice d.ta d.tb.length d.tc) (.slice (some ⟨b, off, none⟩) d.n d.kc))) := HX2.o.bel8 HD9.o (by have := HX.o.1; have := HY.o.g.g0; have := HY.o.g.gM; omega)
    refine hK.out _ _ ?_ fun hHeld => ?_
    · exact ⟨HB9.o, HX9.o⟩
    clear hK K
    try simp only [Act.put, sA, zA, cA]
    refine tqB 10 54 ?_
    clear hHeld
    have HGn := iH (HY.o.add (okAT _) HK1.o HK2.o HO9.o HA9.o HG9.o HD9.o)
    have c9 := ((HY.o.g.box.bel8 HD9.o HY.o.g.gM).2 12 v rfl).1
    have f9 := ((HY.o.g.box.bel8 HD9.o HY.o.g.gM).2 12 v rfl).2
    have HGB : Hd (w.heap.size < g) := (show w.heap.size < g by have := HX.o.1; have := HY.o.g.g0; omega)
    refine rqA 11 fun K hK => ?_
    go_simp
    refine hK.out _ _ ?_ fun hHeld => ?_
    · exact ⟨bl_set HB9.o (by show w.heap.size ≤ g; have := HGB.o; omega) _, HX9.o.upper ((But.refl g w9).set 12 _) (by have := HGB.o; omega)⟩
    clear hK K hHeld c9 f9 HY HO9 HA9 HG9 HD9 HB9 HX9 HB2 HX2
    try simp only [Act.put, sA, zA, cA]
    generalize w9.setCell ⟨g, 12, none⟩ _ = wS at *
    refine wpAnyH_done (by kernel_rfl) ?_ _
    have hle9 : d.n ≤ 1048576 := HN0.o
    go_wp2
    go_roundw
    case rel => exact ⟨j + 1, _, kn, by omega, by go_num, HGn.o, fun i hi => (if e : i = j then (by rw [e, HK2.o]; exact HE.o) else (by rw [HK1.o i (by omega)]; exact HS.o i (by omega)))⟩
    case measure => simp [intOf]; omega
 obtain rfl : j = d.n := by omega
 obtain ⟨a', c', rfl, hcc, hK, hZ, hCp⟩ := HQ.o.fin
 have HF : Hd (OB wr g (gL d.k (.slice a1 d.pn c1) y1.d y2 (.slice y3.a y3.l.length y3.c) (.slice a' d.n c'))) := HQ.o.box
 have HO9 := iH (HO.o.below HQ.o.bel)
 have lf : wr.rangeAt g 0 (gL d.k (.slice a1 d.pn c1) y1.d y2 (.slice y3.a y3.l.length y3.c) (.slice a' d.n c')) := HF.o.box.range 0 _ rfl
 have hst : wr.there (w.heap.size + 1) 0 13 := HO9.o.there 0 13 (by simp)
 have on : ((gA d.k (.slice a1 d.pn c1) y1.d y2 (.slice y3.a y3.l.length y3.c) (.slice a' d.n c')) : Array Value).all (·.oneCell') = true := all_oneCell_toArray (cs := (gL d.k (.slice a1 d.pn c1) y1.d y2 (.slice y3.a y3.l.length y3.c) (.slice a' d.n c'))) (by simp [Value.oneCell'])
 have hrd : (wr.setCells (w.heap.size + 1) 0 (gL d.k (.slice a1 d.pn c1) y1.d y2 (.slice y3.a y3.l.length y3.c) (.slice a' d.n c'))).rangeAt (w.heap.size + 1) 0 (gL d.k (.slice a1 d.pn c1) y1.d y2 (.slice y3.a y3.l.length y3.c) (.slice a' d.n c')) := World.rangeAt_setCells_same _ _ _ _ hst
 have hbf := iH (below_sets (w0 := w) (w.heap.size + 1) (by omega) (gL d.k (.slice a1 d.pn c1) y1.d y2 (.slice y3.a y3.l.length y3.c) (.slice a' d.n c')) 0 wr HBr.o)
 have hsf : Hd ((wr.setCells (w.heap.size + 1) 0 (gL d.k (.slice a1 d.pn c1) y1.d y2 (.slice y3.a y3.l.length y3.c) (.slice a' d.n c'))).heap.size = wr.heap.size) := (but_sets (w.heap.size + 1) (gL d.k (.slice a1 d.pn c1) y1.d y2 (.slice y3.a y3.l.length y3.c) (.slice a' d.n c')) 0 wr).size
 have huf : Hd (Upper (w.heap.size + 1 + 1) wr (wr.setCells (w.heap.size + 1) 0 (gL d.k (.slice a1 d.pn c1) y1.d y2 (.slice y3.a y3.l.length y3.c) (.slice a' d.n c')))) := upper_sets (w.heap.size + 1) (gL d.k (.slice a1 d.pn c1) y1.d y2 (.slice y3.a y3.l.length y3.c) (.slice a' d.n c')) 0 wr
 have HKz := iH hK
 have HZz := iH hZ
 have HCz := iH hCp
 clear hK hZ hCp hcc HI hj hlj HXr
 go_wp2_with (first | (with_reducible refine wpv_at ?_; refine ldr rfl rfl rfl Tryz.underlying52 lf rfl ?_; try simp only [Act.put, sA, zA, cA]) | (with_reducible refine wpv_at ?_; refine store_stopV 52 (.tmp 2) (.tmp 55) rfl ?_))
 change wpList _ _ _ _ _ _
 refine wpList_store_mid rfl 52 _ _ rfl (w.heap.size + 1) 0 (gA d.k (.slice a1 d.pn c1) y1.d y2 (.slice y3.a y3.l.length y3.c) (.slice a' d.n c')) rfl rfl hst (by kernel_rfl) on ?_
 try simp only [Act.put]
 generalize wr.setCells (w.heap.size + 1) 0 (gL d.k (.slice a1 d.pn c1) y1.d y2 (.slice y3.a y3.l.length y3.c) (.slice a' d.n c')) = W5 at *
 go_wp2
 try simp only [Exit.inBlock, Exit.then]
 refine bodyPost_ret (v := .agg (gA d.k (.slice a1 d.pn c1) y1.d y2 (.slice y3.a y3.l.length y3.c) (.slice a' d.n c'))) ?hr rfl ?hp
 case hr => exact results_cell rfl rfl (run_loadVar_mid (P := Tryz.prog) _ (w.heap.size + 1) 0 52 (gL d.k (.slice a1 d.pn c1) y1.d y2 (.slice y3.a y3.l.length y3.c) (.slice a' d.n c')) _ hrd Tryz.underlying52 rfl (by kernel_rfl))
 have hw1 : w.heap.size ≤ W1.heap.size := by have := HG.o; omega
 have hw2 : W1.heap.size ≤ W2.heap.size := HZ2.o.size
 have hw3 : W2.heap.size ≤ W3.heap.size := HM3.o
 have hw4 : W3.heap.size ≤ wr.heap.size := HQ.o.hM
 have hU : Upper W1.heap.size wr W5 := huf.o.mono (by have := HG.o; omega)
 have hs := HQ.o.st
 have hs0 := HS3.o.trans hs.left
 have q1 := (((HTW.o.o1.keep hs0.left.left).upper hU).base hw1)
 have q2 := (((HTW.o.o2.keep hs0.left.right).upper hU).base hw1)
 have q3 := (((HTW.o.o3.keep hs0.right).upper hU).base hw1)
 have q4 := row_keep HKp.o HZp.o hs.right.left
 have q5 := fun i (hi : i < d.pn) => ((((HOp.o i hi).keep (hs.right.right.kid hi)).upper (hU.mono hw2)).base (Nat.le_trans hw1 hw2))
 have q6 := fun i hi => ((HQ.o.ok i hi).upper (hU.mono (Nat.le_trans hw2 hw3))).base (Nat.le_trans hw1 (Nat.le_trans hw2 hw3))
 have hw13 := Nat.le_trans hw1 (Nat.le_trans hw2 hw3)
 have hw12 := Nat.le_trans hw1 hw2
 have el : y3.l.length = d.tb.length := by have h := congrArg List.length HE3.o; simp at h; omega
 refine ⟨AT.mk ⟨d.k, a1, c1, d.pn, kp, y1, y2, y3.a, y3.c, y3.l, a', c', d.n⟩ k', rfl, ⟨⟨(q4.1.upper (hU.mono hw2)).base hw12, fun i hi => (q5 i hi).lies, HPN.o, q1.l, q2.1, q3.row, (by show y3.l.length ≤ 1048576; rw [el]; exact HTN.o), HN0.o, (HKz.o.upper (hU.mono (Nat.le_trans hw2 hw3))).base hw13, fun i hi => (q6 i hi).l⟩, ⟨(q4.2.upper (hU.mono hw2)).base hw12, q5, q1.z, q2.2, ⟨q3.z, q3.t⟩, (HZz.o.upper (hU.mono (Nat.le_trans hw2 hw3))).base hw13, fun i hi => (q6 i hi).z⟩⟩, ?_, ⟨rfl, rfl, HSp.o, HE1.o, HE2.o.symm, HE3.o, rfl, HS.o⟩, hbf.o⟩
 have hc1 := ((HTW.o.cp.app HCp.o hw2 hw3).app HCz.o (Nat.le_trans hw2 hw3) hw4).mono hw1 (Nat.le_of_eq hsf.o.symm)
 refine Cp.perm hc1 ?_
 show List.Perm _ ((rfp a1 d.pn ++ catB (fun i => (kp i).fp) d.pn) ++ y1.fp ++ y2.fp ++ tfp y3.a y3.l ++ (rfp a' d.n ++ catB (fun i => (k' i).fp) d.n))
 refine List.Perm.append_right _ ?_
 exact (List.perm_append_comm (l₁ := y1.fp ++ y2.fp ++ tfp y3.a y3.l)).trans (List.Perm.of_eq (by simp only [List.append_assoc]))
theorem l5own_any (e : AT) : ∀ (w : World), e.lies 0 w → Calls Tryz.prog 61 #[.agg e.d.ar] w fun r w' => ∃ y : AT, r = .returned (.agg y.d.ar) ∧ y.ow w.heap.size w' ∧ Cp w.heap.size w'.heap.size y.fp ∧ (e).same y ∧ Bl w w' := by
 induction e with
 | nil => exact fun _ h => False.elim h
 | mk d kid ih => exact fun w h => l5own_of d kid w h fun i hi W hb => ih i W (AT.lies.upper (uB hb) (h.2.2.2.2.2.2.2.2.2 i hi))
end Go.Proofs.YtoloadogihbdeaaGreat
