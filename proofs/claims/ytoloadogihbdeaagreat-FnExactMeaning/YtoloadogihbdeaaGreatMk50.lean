import Derived.Test.YtoloadogihbdeaaGreatMk49
namespace Go.Proofs.YtoloadogihbdeaaGreat
open Go.RowKit Go.Deep
set_option maxHeartbeats 40000000
set_option maxRecDepth 100000
def AT.hang (w0 w : World) : AT → Prop
 | .nil => False
 | .mk d kid => KRow w0.heap.size w 15 d.pa d.pn (fun i => (d.pat i).cells) ∧ (∀ i, i < d.pn → (d.pat i).lies 0 w0) ∧ d.pn ≤ 1048576 ∧ d.e.lies 0 w0 ∧ BsF 0 w0 d.v ∧ TRowF 0 w0 d.ta d.tb ∧ d.tb.length ≤ 1048576 ∧ d.n ≤ 1048576 ∧ KRow w0.heap.size w 13 d.ka d.n (fun i => (kid i).d.cells) ∧ ∀ i, i < d.n → (kid i).hang w0 w
def AT.fr : AT → List Nat
 | .nil => []
 | .mk d kid => rfp d.pa d.pn ++ (rfp d.ka d.n ++ catB (fun i => (kid i).fr) d.n)
theorem AT.hang.lies {w0 w : World} (hb : Bl w0 w) {e : AT} (h : e.hang w0 w) : e.lies 0 w := by
 induction e with
 | nil => exact False.elim h
 | mk d kid ih =>
  obtain ⟨h1, h2, h3, h4, h5, h6, h7, h8, h9, h10⟩ := h
  exact ⟨h1.base nZ, fun i hi => (h2 i hi).upper (uB hb), h3, ET.lies.upper (uB hb) h4, h5.upper (uB hb), h6.upper (uB hb), h7, h8, h9.base nZ, fun i hi => ih i (h10 i hi)⟩
theorem krow_keep {B : Nat} {w w' : World} {sz n : Nat} {a : Option Addr} {C : Nat → List Value} (hR : KRow B w sz a n C) (hk : Stay (rfp a n) w w') : KRow B w' sz a n C := by
 by_cases h0 : n = 0
 · exact .inl h0
 have hx : rfp a n = [blk a] := by unfold rfp; rw [if_neg h0]
 rw [hx] at hk
 obtain ⟨b, off, ha, hB, hlt, hc⟩ := hR.resolve_left h0
 have hb : w'.heap[b]? = w.heap[b]? := hk.1 b (by rw [ha]; simp [blk])
 exact .inr ⟨b, off, ha, hB, Nat.lt_of_lt_of_le hlt hk.2, fun i hi c u hu => (World.cell?_of_block (w := w) (a := ⟨b, off + i * sz + c, none⟩) hb).trans (hc i hi c u hu)⟩
theorem AT.hang.keep {w0 w w' : World} {e : AT} (h : e.hang w0 w) (hk : Stay e.fr w w') : e.hang w0 w' := by
 induction e with
 | nil => exact False.elim h
 | mk d kid ih =>
  obtain ⟨h1, h2, h3, h4, h5, h6, h7, h8, h9, h10⟩ := h
  exact ⟨krow_keep h1 hk.left, h2, h3, h4, h5, h6, h7, h8, krow_keep h9 hk.right.left, fun i hi => ih i (h10 i hi) (hk.right.right.kid hi)⟩
theorem okHG (w0 : World) (x : AT) (w w' : World) (h : x.hang w0 w) (k : Stay x.fr w w') : x.hang w0 w' := h.keep k
theorem ET.same.refl {e : ET} : ∀ {w : World}, e.lies 0 w → e.same e := by
 induction e with
 | nil => exact fun h => False.elim h
 | mk d kid ih => exact fun h => ⟨rfl, rfl, rfl, rfl, rfl, fun i hi => ih i (h.2.2.2.2.2 i hi)⟩
theorem nest_end {w0 w W1 wQ W5 : World} {d : PN} {kid : Nat → PT} {y : AT} {gp gq : Nat} (hK : d.k = 0) (hE : zeroE d.e) (hV : d.v.b = []) (hT : d.tb = []) (hel : d.e ≠ .nil) (hpl : d.p.lies 0 w0) (hbw : Bl w0 w) (hg : w.heap.size + 1 < W1.heap.size)
 (hy : y.hang w0 wQ) (hc : Cp W1.heap.size wQ.heap.size y.fr) (hm : Mean (kid 0) y) (hp : Box wQ gp d.p.cl) (hq : Box wQ gq [.int .i64 y.d.k, .slice y.d.pa y.d.pn y.d.pc, .int .i64 y.d.e.d.k, .int .i64 y.d.e.d.op, .slice y.d.e.d.v.a y.d.e.d.v.len y.d.e.d.v.cap, .int .i64 y.d.e.d.t.t.k, .slice y.d.e.d.t.t.a y.d.e.d.t.t.len y.d.e.d.t.t.cap, .int .i64 y.d.e.d.t.t.n, .int .i64 y.d.e.d.t.t.s, .slice y.d.e.d.ka y.d.e.d.n y.d.e.d.kc, .slice y.d.v.a y.d.v.len y.d.v.cap, .slice y.d.ta y.d.tb.length y.d.tc, .slice y.d.ka y.d.n y.d.kc, .int .i64 0, .slice (some ⟨gp, 0, none⟩) 1 1, .int .i64 0, .int .i64 0, .slice none 0 0, .int .i64 0, .slice none 0 0, .int .i64 0, .int .i64 0, .slice none 0 0, .slice none 0 0, .slice none 0 0, .slice none 0 0]) (hgp : W1.heap.size ≤ gp) (hgq : W1.heap.size ≤ gq) (np : ∀ q ∈ y.fr, q ≠ gp) (nq : ∀ q ∈ y.fr, q ≠ gq) (npq : gp ≠ gq) (hu : But (w.heap.size + 1) wQ W5) (hbf : Bl w W5) :
 ∃ z : AT, (Ending.returned (.agg #[.int .i64 1, .slice none 0 0, .int .i64 0, .int .i64 0, .slice none 0 0, .int .i64 0, .slice none 0 0, .int .i64 0, .int .i64 0, .slice none 0 0, .slice none 0 0, .slice none 0 0, .slice (some ⟨gq, 0, none⟩) 2 2])) = .returned (.agg z.d.ar) ∧ z.hang w0 W5 ∧ Cp w.heap.size W5.heap.size z.fr ∧ Mean (PT.mk d kid) z ∧ Bl w W5 := by
 try unfold AN.ar
 try unfold PB.ar
 have hw0 := hbw.size
 have hp5 := hp.upper hu (by omega)
 have hq5 := hq.upper hu (by omega)
 have hs := hu.size
 have hy5 := hy.keep (Stay.but hu fun q hq => by have := (hc.i q hq).1; omega)
 obtain ⟨z, hz⟩ : ∃ z : AT, z = AT.mk ⟨0, some ⟨gp, 0, none⟩, 1, 1, fun _ => d.p, ET0, SL0, none, 0, [], none, 0, 0⟩ (fun _ => .nil) := ⟨_, rfl⟩
 obtain ⟨kn, hk0, hk1⟩ : ∃ kn : Nat → AT, kn 0 = y ∧ kn 1 = z := ⟨fun i => if i = 0 then y else z, rfl, rfl⟩
 have hrow : KRow w0.heap.size W5 15 (some ⟨gp, 0, none⟩) 1 (fun _ => d.p.cells) := .inr ⟨gp, 0, rfl, by omega, hp5.1, fun i hi c u hu => by obtain rfl : i = 0 := (by omega); simpa using hp5.2 c u hu⟩
 have hkr : KRow w0.heap.size W5 13 (some ⟨gq, 0, none⟩) 2 (fun i => (kn i).d.cells) := by
  refine .inr ⟨gq, 0, rfl, by omega, hq5.1, fun i hi c u hu => ?_⟩
  have hL : Box W5 gq (y.d.cells ++ z.d.cells) := by rw [hz]; exact hq5
  have ec : c < 13 := by
   have h := (List.getElem?_eq_some_iff.1 hu).1
   exact h
  have hi2 : i = 0 ∨ i = 1 := by omega
  rcases hi2 with rfl | rfl
  · simp only [hk0] at hu
    have h := hL.2 c u (by rw [List.getElem?_append_left (by exact ec)]; exact hu)
    simpa using h
  simp only [hk1] at hu
  have h := hL.2 (13 + c) u (by rw [List.getElem?_append_right (by show 13 ≤ 13 + c; omega)]; show z.d.cells[13 + c - 13]? = _; rw [Nat.add_sub_cancel_left]; exact hu)
  simpa using h
 have h1 : ∀ i, i < 2 → (kn i).hang w0 W5 := fun i hi => by
  have hi2 : i = 0 ∨ i = 1 := by omega
  rcases hi2 with rfl | rfl
  · rw [hk0]; exact hy5
  rw [hk1, hz]
  exact ⟨hrow, fun i hi => hpl, (by show 1 ≤ 1048576; omega), (ET0_ow 0 w0).l, (SL0_own 0 w0).1, TRow0 _ _, nZ, nZ, .inl rfl, fun i hi => absurd hi nN⟩
 refine ⟨AT.mk ⟨1, none, 0, 0, AN0.pat, ET0, SL0, none, 0, [], some ⟨gq, 0, none⟩, 2, 2⟩ kn, rfl, ⟨.inl rfl, fun i hi => absurd hi nN, nZ, (ET0_ow 0 w0).l, (SL0_own 0 w0).1, TRow0 _ _, nZ, (by show 2 ≤ 1048576; omega), hkr, h1⟩, ?_, ⟨rfl, zeroE_two hel (fun h => by cases h) hE ET0_zero, hV, by rw [hT], .inr ⟨hK, rfl, rfl, ?_, ?_⟩⟩, hbf⟩
 · show Cp _ _ ([] ++ ([gq] ++ (([] ++ (kn 0).fr) ++ (kn 1).fr)))
   rw [hk0, hk1, hz]
   show Cp _ _ ([] ++ ([gq] ++ (([] ++ y.fr) ++ ([gp] ++ ([] ++ [])))))
   simp only [List.nil_append, List.append_nil, List.singleton_append]
   have := hp.1
   have := hq.1
   refine ⟨List.nodup_cons.2 ⟨fun h => ?_, ?_⟩, fun q h => ?_⟩
   · rcases List.mem_append.1 h with h | h
     · exact nq gq h rfl
     exact npq (List.mem_singleton.1 h).symm
   · exact List.nodup_append.2 ⟨hc.nd, List.nodup_cons.2 ⟨by simp, List.nodup_nil⟩, fun a ha b hb e => np a ha (by rw [e]; exact List.mem_singleton.1 hb)⟩
   rcases List.mem_cons.1 h with h | h
   · omega
   rcases List.mem_append.1 h with h | h
   · have := hc.i q h
     omega
   have := List.mem_singleton.1 h
   omega
 · rw [hk0]; exact hm
 rw [hk1, hz]; exact ⟨rfl, rfl, ⟨⟨rfl, rfl⟩, ⟨rfl, rfl⟩, ⟨rfl, rfl⟩⟩, ET0_zero, rfl, rfl, rfl⟩
theorem l7m_of (d : PN) (kid : Nat → PT) (deep : Int) (w0 w : World) (hbw : Bl w0 w) (h : (PT.mk d kid).lies 0 w0) (hp : pOk (PT.mk d kid) deep)
 (IH : ∀ i, i < d.n → ∀ W, Bl w W → Calls Tryz.prog 62 #[.agg (kid i).d.ar] W fun r w' => ∃ y : AT, r = .returned (.agg y.d.ar) ∧ y.hang w0 w' ∧ Cp W.heap.size w'.heap.size y.fr ∧ Mean (kid i) y ∧ Bl W w') :
 Calls Tryz.prog 62 #[.agg d.ar] w fun r w' => ∃ y : AT, r = .returned (.agg y.d.ar) ∧ y.hang w0 w' ∧ Cp w.heap.size w'.heap.size y.fr ∧ Mean (PT.mk d kid) y ∧ Bl w w' := by
 try unfold AN.ar
 try unfold PN.ar
 obtain ⟨hpl, he, hv, ht, htn, hn, hR, hk⟩ := h
 obtain ⟨_, hN, hkid⟩ := hp
 have HI := iH IH
 have HND := iH hN
 have HPL := iH hpl
 have HE0 := iH he
 have HEL := iH he.ne
 have HV := iH hv
 have HT := iH ht
 have HTN := iH htn
 have HN0 := iH hn
 have HR := iH (hR.upper (uB hbw))
 have HBW := iH hbw
 have HX := iH ((Box.new w d.ar 46 (0, 0)).below (bl_a (.cells zGa 52)))
 have HO : Hd (OB ((w.alloc (.cells d.ar 46)).alloc (.cells zGa 52)) (w.heap.size + 1) zGl) := (show OB _ _ _ by have h := OB.new (w.alloc (.cells d.ar 46)) zGa 52; simpa using h)
 have HB : Hd (Bl w ((w.alloc (.cells d.ar 46)).alloc (.cells zGa 52))) := bl_alloc (bl_a _) _
 clear hpl he hv ht htn hn hR hk hN hkid IH hbw
 go_in
 go_upto_region 1 with fail
 generalize ((w.alloc _).alloc _) = W1 at *
 have HG : Hd (w.heap.size + 1 < W1.heap.size) := HO.o.1
 have c0 := HX.o.2 0 _ rfl
 by_cases h8 : d.k = 8
 · have HK := iH h8
   have hst : W1.there (w.heap.size + 1) 0 13 := HO.o.there 0 13 (by simp)
   have on : (zGa : Array Value).all (·.oneCell') = true := all_oneCell_toArray (cs := zGl) (by simp [Value.oneCell'])
   have hrd : (W1.setCells (w.heap.size + 1) 0 zGl).rangeAt (w.heap.size + 1) 0 zGl := World.rangeAt_setCells_same _ _ _ _ hst
   have hbf := iH (below_sets (w0 := w) (w.heap.size + 1) (by omega) zGl 0 W1 HB.o)
   have hsf : Hd ((W1.setCells (w.heap.size + 1) 0 zGl).heap.size = W1.heap.size) := (but_sets (w.heap.size + 1) zGl 0 W1).size
   have huf : Hd (But (w.heap.size + 1) W1 (W1.setCells (w.heap.size + 1) 0 zGl)) := but_sets (w.heap.size + 1) zGl 0 W1
   go_wp2_with (with_reducible refine wpv_at ?_; refine store_stopV 52 (.tmp 2) (.tmp 9) rfl ?_)
   change wpList _ _ _ _ _ _
   refine wpList_store_mid rfl 52 _ _ rfl (w.heap.size + 1) 0 zGa rfl rfl hst (by kernel_rfl) on ?_
   try simp only [Act.put]
   generalize W1.setCells (w.heap.size + 1) 0 zGl = W5 at *
   go_wp2
   try simp only [Exit.inBlock, Exit.then]
   refine bodyPost_ret (v := .agg zGa) ?hru rfl ?hpu
   case hru => exact results_cell rfl rfl (run_loadVar_mid (P := Tryz.prog) _ (w.heap.size + 1) 0 52 zGl _ hrd Tryz.underlying52 rfl (by kernel_rfl))
   have hE := HND.o.e0 (by rw [HK.o]; unfold hasE; decide)
   have hV := HND.o.v0 (by rw [HK.o]; unfold hasV; decide)
   have hT := HND.o.t0 (by rw [HK.o]; decide)
   have h1 : d.n = 0 := by have h := HND.o.n; rw [HK.o] at h; exact h
   exact ⟨AT.mk ⟨0, none, 0, 0, AN0.pat, ET0, SL0, none, 0, [], none, 0, 0⟩ (fun _ => .nil), rfl, ⟨.inl rfl, fun i hi => absurd hi nN, nZ, (ET0_ow 0 w0).l, (SL0_own 0 w0).1, TRow0 _ _, nZ, nZ, .inl rfl, fun i hi => absurd hi nN⟩, Cp.nil _ _, ⟨rfl, zeroE_two HEL.o (fun h => by cases h) hE ET0_zero, hV, by rw [hT], .inl ⟨by rw [HK.o]; decide, fun _ => rfl, fun h => absurd HK.o h, h1.symm, fun i hi => absurd hi (by rw [h1]; omega)⟩⟩, hbf.o⟩
 by_cases h7 : d.k = 7
 · have HK := iH h7
   have c25 := HX.o.2 25 _ rfl
   have c26 := HX.o.2 26 _ rfl
   have hst : W1.there (w.heap.size + 1) 0 13 := HO.o.there 0 13 (by simp)
   have on : (#[.int .i64 7, .slice none 0 0, .int .i64 0, .int .i64 0, .slice none 0 0, .int .i64 0, .slice none 0 0, .int .i64 0, .int .i64 0, .slice none 0 0, .slice d.v.a d.v.len d.v.cap, .slice d.ta d.tb.length d.tc, .slice none 0 0] : Array Value).all (·.oneCell') = true := all_oneCell_toArray (cs := [.int .i64 7, .slice none 0 0, .int .i64 0, .int .i64 0, .slice none 0 0, .int .i64 0, .slice none 0 0, .int .i64 0, .int .i64 0, .slice none 0 0, .slice d.v.a d.v.len d.v.cap, .slice d.ta d.tb.length d.tc, .slice none 0 0]) (by simp [Value.oneCell'])
   have hrd : (W1.setCells (w.heap.size + 1) 0 [.int .i64 7, .slice none 0 0, .int .i64 0, .int .i64 0, .slice none 0 0, .int .i64 0, .slice none 0 0, .int .i64 0, .int .i64 0, .slice none 0 0, .slice d.v.a d.v.len d.v.cap, .slice d.ta d.tb.length d.tc, .slice none 0 0]).rangeAt (w.heap.size + 1) 0 [.int .i64 7, .slice none 0 0, .int .i64 0, .int .i64 0, .slice none 0 0, .int .i64 0, .slice none 0 0, .int .i64 0, .int .i64 0, .slice none 0 0, .slice d.v.a d.v.len d.v.cap, .slice d.ta d.tb.length d.tc, .slice none 0 0] := World.rangeAt_setCells_same _ _ _ _ hst
   have hbf := iH (below_sets (w0 := w) (w.heap.size + 1) (by omega) [.int .i64 7, .slice none 0 0, .int .i64 0, .int .i64 0, .slice none 0 0, .int .i64 0, .slice none 0 0, .int .i64 0, .int .i64 0, .slice none 0 0, .slice d.v.a d.v.len d.v.cap, .slice d.ta d.tb.length d.tc, .slice none 0 0] 0 W1 HB.o)
   have hsf : Hd ((W1.setCells (w.heap.size + 1) 0 [.int .i64 7, .slice none 0 0, .int .i64 0, .int .i64 0, .slice none 0 0, .int .i64 0, .slice none 0 0, .int .i64 0, .int .i64 0, .slice none 0 0, .slice d.v.a d.v.len d.v.cap, .slice d.ta d.tb.length d.tc, .slice none 0 0]).heap.size = W1.heap.size) := (but_sets (w.heap.size + 1) [.int .i64 7, .slice none 0 0, .int .i64 0, .int .i64 0, .slice none 0 0, .int .i64 0, .slice none 0 0, .int .i64 0, .int .i64 0, .slice none 0 0, .slice d.v.a d.v.len d.v.cap, .slice d.ta d.tb.length d.tc, .slice none 0 0] 0 W1).size
   have huf : Hd (But (w.heap.size + 1) W1 (W1.setCells (w.heap.size + 1) 0 [.int .i64 7, .slice none 0 0, .int .i64 0, .int .i64 0, .slice none 0 0, .int .i64 0, .slice none 0 0, .int .i64 0, .int .i64 0, .slice none 0 0, .slice d.v.a d.v.len d.v.cap, .slice d.ta d.tb.length d.tc, .slice none 0 0])) := but_sets (w.heap.size + 1) [.int .i64 7, .slice none 0 0, .int .i64 0, .int .i64 0, .slice none 0 0, .int .i64 0, .slice none 0 0, .int .i64 0, .int .i64 0, .slice none 0 0, .slice d.v.a d.v.len d.v.cap, .slice d.ta d.tb.length d.tc, .slice none 0 0] 0 W1
   go_wp2_with (with_reducible refine wpv_at ?_; refine store_stopV 52 (.tmp 2) (.tmp 16) rfl ?_)
   change wpList _ _ _ _ _ _
   refine wpList_store_mid rfl 52 _ _ rfl (w.heap.size + 1) 0 #[.int .i64 7, .slice none 0 0, .int .i64 0, .int .i64 0, .slice none 0 0, .int .i64 0, .slice none 0 0, .int .i64 0, .int .i64 0, .slice none 0 0, .slice d.v.a d.v.len d.v.cap, .slice d.ta d.tb.length d.tc, .slice none 0 0] rfl rfl hst (by kernel_rfl) on ?_
   try simp only [Act.put]
   clear c25 c26
   generalize W1.setCells (w.heap.size + 1) 0 [.int .i64 7, .slice none 0 0, .int .i64 0, .int .i64 0, .slice none 0 0, .int .i64 0, .slice none 0 0, .int .i64 0, .int .i64 0, .slice none 0 0, .slice d.v.a d.v.len d.v.cap, .slice d.ta d.tb.length d.tc, .slice none 0 0] = W5 at *
   go_wp2
   try simp only [Exit.inBlock, Exit.then]
   refine bodyPost_ret (v := .agg #[.int .i64 7, .slice none 0 0, .int .i64 0, .int .i64 0, .slice none 0 0, .int .i64 0, .slice none 0 0, .int .i64 0, .int .i64 0, .slice none 0 0, .slice d.v.a d.v.len d.v.cap, .slice d.ta d.tb.length d.tc, .slice none 0 0]) ?hrr rfl ?hpr
   case hrr => exact results_cell rfl rfl (run_loadVar_mid (P := Tryz.prog) _ (w.heap.size + 1) 0 52 [.int .i64 7, .slice none 0 0, .int .i64 0, .int .i64 0, .slice none 0 0, .int .i64 0, .slice none 0 0, .int .i64 0, .int .i64 0, .slice none 0 0, .slice d.v.a d.v.len d.v.cap, .slice d.ta d.tb.length d.tc, .slice none 0 0] _ hrd Tryz.underlying52 rfl (by kernel_rfl))
   have hE := HND.o.e0 (by rw [HK.o]; unfold hasE; decide)
   have h1 : d.n = 0 := by have h := HND.o.n; rw [HK.o] at h; exact h
   exact ⟨AT.mk ⟨7, none, 0, 0, AN0.pat, ET0, d.v, d.ta, d.tc, d.tb, none, 0, 0⟩ (fun _ => .nil), rfl, ⟨.inl rfl, fun i hi => absurd hi nN, nZ, (ET0_ow 0 w0).l, HV.o, HT.o, HTN.o, nZ, .inl rfl, fun i hi => absurd hi nN⟩, Cp.nil _ _, ⟨rfl, zeroE_two HEL.o (fun h => by cases h) hE ET0_zero, rfl, rfl, .inl ⟨by rw [HK.o]; decide, fun h => by rw [HK.o] at h; omega, fun _ => HK.o.symm, h1.symm, fun i hi => absurd hi (by rw [h1]; omega)⟩⟩, hbf.o⟩
 by_cases h0 : d.k = 0
 · have HK := iH h0
   have HN1 : Hd (d.n = 1) := (show d.n = 1 by have h := HND.o.n; rw [HK.o] at h; exact h)
   obtain ⟨b, off, hka, _, hlt, hc⟩ := HR.o.resolve_left (by have := HN1.o; omega)
   have HK0 : Hd (∀ W, Bl w W → W.rangeAt b off (kid 0).d.cl) := fun W hb q u hu => (hb.cell (p := ⟨b, off + q, none⟩) hlt).trans (by have h := hc 0 (by have := HN1.o; omega) q u hu; rwa [show off + 0 * 28 + q = off + q by omega] at h)
   have HXs : Hd (Box W1 w.heap.size (wL d.k d.ord d.p d.e.d d.v (.slice d.ta d.tb.length d.tc) (.slice (some ⟨b, off, none⟩) d.n d.kc))) := (show Box _ _ _ by have h := HX.o; first | rwa [hka] at h | (unfold PN.ar at h; rwa [hka] at h))
   clear hc hlt hka HX
   have HX := HXs
   clear HXs
   have hn1 : 0 < d.n := by have := HN1.o; omega
   go_wp2_with fail
   clear c0
   refine wqd (fun w' => Bl w w' ∧ Box w' w.heap.size (wL d.k d.ord d.p d.e.d d.v (.slice d.ta d.tb.length d.tc) (.slice (some ⟨b, off, none⟩) d.n d.kc))) ?_ fun hHeld => ?_
   · exact ⟨Below.drew HB.o, HX.o.below bdr⟩
   refine tqB 0 19 ?_
   refine tqB 1 20 (v := .slice (some ⟨b, off, none⟩) d.n d.kc) (hy := by intro w' hSw; have c0 := hSw.2.2 27 _ rfl; go_simp; (try with_reducible rfl)) ?_
   refine tqB 2 21 (v := .pointer (some ⟨b, off, none⟩)) ?_
   refine ldq 3 22 Tryz.underlying46 (fun w' h => HK0.o w' h.1) ?_
   refine tqB 5 24 ?_
   refine ldq 6 25 Tryz.underlying39 (fun w' h => h.2.range 2 d.p.cl rfl) ?_
   have HBn := iH (Below.drew HB.o)
   have HXn := iH (HX.o.below bdr)
   have HOn := iH (HO.o.below bdr)
   have HZn : Hd (Bl W1 W1.drew) := Below.drew brf
   clear HB HX HO
   have HB := HBn
   have HX := HXn
   have HO := HOn
   have HZ := HZn
   clear HBn HXn HOn HZn
   generalize W1.drew = w_ at *
   refine wpAnyH_ready (rs := [4, 7]) (by kernel_rfl) (by simp) ?_
   refine AllReadyH.cons rfl (fun K hK => ?_) (AllReadyH.cons rfl (fun K hK => ?_) (AllReadyH.nil))
   go_simp
   refine (HI.o 0 (by have := HN1.o; omega) _ HB.o).mono ?_
   rintro r wC ⟨y, rfl, hy, hc, he, hb2⟩
   clear hHeld
   have HE := iH he
   have HY : Hd (y.hang w0 wC) := hy
   have HC : Hd (Cp W1.heap.size wC.heap.size y.fr) := hc.mono HZ.o.size nR
   have HBn := iH (bl_trans HB.o hb2)
   have HXn := iH (HX.o.below hb2)
   have HOn := iH (HO.o.below hb2)
   have HZn := iH (bl_trans HZ.o hb2)
   refine hK.out _ _ ?_ fun hHeld => ?_
   · exact ⟨HBn.o, HXn.o⟩
   clear hK K
   try simp only [Act.put, sA, zA, cA]
   clear HB HX HO HZ hb2 hy hc he
   have HB := HBn
   have HX := HXn
   have HO := HOn
   have HZ := HZn
   clear HBn HXn HOn HZn
   rotate_left
   clear hHeld
   go_simp
   refine hK.out _ _ ?_ fun hHeld => ?_
   · exact ⟨bl_alloc HB.o _, HX.o.below (bl_a _)⟩
   clear hK K
   try simp only [Act.put, sA, zA, cA]
   have hb2 : Bl w_ (w_.alloc (.cells d.p.ar 39)) := bl_a _
   have HPB := iH (Box.new w_ d.p.ar 39 (0, 0))
   have HGP : Hd (W1.heap.size ≤ w_.heap.size) := HZ.o.size
   obtain ⟨gp, hgp⟩ : ∃ b, b = w_.heap.size := ⟨_, rfl⟩
   rw [← hgp] at HPB HGP ⊢
   clear hgp
   have HBn := iH (bl_trans HB.o hb2)
   have HXn := iH (HX.o.below hb2)
   have HOn := iH (HO.o.below hb2)
   have HZn := iH (bl_trans HZ.o hb2)
   generalize w_.alloc (.cells d.p.ar 39) = wP at *
   clear HB HX HO HZ hb2
   have HB := HBn
   have HX := HXn
   have HO := HOn
   have HZ := HZn
   clear HBn HXn HOn HZn
   refine tqB 8 27 (v := .agg #[.int .i64 0, .slice (some ⟨gp, 0, none⟩) 1 1, .int .i64 0, .int .i64 0, .slice none 0 0, .int .i64 0, .slice none 0 0, .int .i64 0, .int .i64 0, .slice none 0 0, .slice none 0 0, .slice none 0 0, .slice none 0 0]) ?_
   rotate_left
   refine rqA 7 fun K hK => ?_
   clear hHeld
   go_simp
   refine hK.out _ _ ?_ fun hHeld => ?_
   · exact ⟨bl_alloc HB.o _, HX.o.below (bl_a _)⟩
   clear hK K
   try simp only [Act.put, sA, zA, cA]
   have hb2 : Bl wC (wC.alloc (.cells d.p.ar 39)) := bl_a _
   have HPB := iH (Box.new wC d.p.ar 39 (0, 0))
   have HGP : Hd (W1.heap.size ≤ wC.heap.size) := HZ.o.size
   have HNP : Hd (∀ q ∈ y.fr, q ≠ wC.heap.size) := fun q hq => by have := (HC.o.i q hq).2; omega
   obtain ⟨gp, hgp⟩ : ∃ b, b = wC.heap.size := ⟨_, rfl⟩
   rw [← hgp] at HPB HGP HNP ⊢
   clear hgp
   have HBn := iH (bl_trans HB.o hb2)
   have HXn := iH (HX.o.below hb2)
   have HOn := iH (HO.o.below hb2)
   have HZn := iH (bl_trans HZ.o hb2)
   have HYn := iH (HY.o.keep (Stay.below hb2 fun q hq => (HC.o.i q hq).2))
   have HCn := iH (HC.o.mono nR hb2.size)
   generalize wC.alloc (.cells d.p.ar 39) = wCP at *
   clear HB HX HO HZ HY HC hb2
   have HB := HBn
   have HX := HXn
   have HO := HOn
   have HZ := HZn
   have HY := HYn
   have HC := HCn
   clear HBn HXn HOn HZn HYn HCn
   refine tqB 8 27 (v := .agg #[.int .i64 0, .slice (some ⟨gp, 0, none⟩) 1 1, .int .i64 0, .int .i64 0, .slice none 0 0, .int .i64 0, .slice none 0 0, .int .i64 0, .int .i64 0, .slice none 0 0, .slice none 0 0, .slice none 0 0, .slice none 0 0]) ?_
   rotate_left
   refine rqA 4 fun K hK => ?_
   go_simp
   refine (HI.o 0 (by have := HN1.o; omega) _ HB.o).mono ?_
   rintro r wCP ⟨y, rfl, hy, hc, he, hb2⟩
   clear hHeld
   have HE := iH he
   have HY : Hd (y.hang w0 wCP) := hy
   have HC : Hd (Cp W1.heap.size wCP.heap.size y.fr) := hc.mono HZ.o.size nR
   have HBn := iH (bl_trans HB.o hb2)
   have HXn := iH (HX.o.below hb2)
   have HOn := iH (HO.o.below hb2)
   have HZn := iH (bl_trans HZ.o hb2)
   have HPBn := iH (HPB.o.below hb2)
   have HNP : Hd (∀ q ∈ y.fr, q ≠ gp) := fun q hq => by have := (hc.i q hq).1; have := HPB.o.1; omega
   refine hK.out _ _ ?_ fun hHeld => ?_
   · exact ⟨HBn.o, HXn.o⟩
   clear hK K
   try simp only [Act.put, sA, zA, cA]
   clear HB HX HO HZ HPB hb2 hy hc he
   have HB := HBn
   have HX := HXn
   have HO := HOn
   have HZ := HZn
   have HPB := HPBn
   clear HBn HXn HOn HZn HPBn
   rotate_left
   all_goals
    refine rqA 9 fun K hK => ?_
    clear hHeld
    go_simp
    refine hK.out _ _ ?_ fun hHeld => ?_
    · exact ⟨bl_alloc HB.o _, HX.o.below (bl_a _)⟩
    clear hK K
    try simp only [Act.put, sA, zA, cA]
    have hb2 : Bl wCP (wCP.alloc (.cells #[.int .i64 y.d.k, .slice y.d.pa y.d.pn y.d.pc, .int .i64 y.d.e.d.k, .int .i64 y.d.e.d.op, .slice y.d.e.d.v.a y.d.e.d.v.len y.d.e.d.v.cap, .int .i64 y.d.e.d.t.t.k, .slice y.d.e.d.t.t.a y.d.e.d.t.t.len y.d.e.d.t.t.cap, .int .i64 y.d.e.d.t.t.n, .int .i64 y.d.e.d.t.t.s, .slice y.d.e.d.ka y.d.e.d.n y.d.e.d.kc, .slice y.d.v.a y.d.v.len y.d.v.cap, .slice y.d.ta y.d.tb.length y.d.tc, .slice y.d.ka y.d.n y.d.kc, .int .i64 0, .slice (some ⟨gp, 0, none⟩) 1 1, .int .i64 0, .int .i64 0, .slice none 0 0, .int .i64 0, .slice none 0 0, .int .i64 0, .int .i64 0, .slice none 0 0, .slice none 0 0, .slice none 0 0, .slice none 0 0] 52)) := bl_a _
    have HQB := iH (Box.new wCP #[.int .i64 y.d.k, .slice y.d.pa y.d.pn y.d.pc, .int .i64 y.d.e.d.k, .int .i64 y.d.e.d.op, .slice y.d.e.d.v.a y.d.e.d.v.len y.d.e.d.v.cap, .int .i64 y.d.e.d.t.t.k, .slice y.d.e.d.t.t.a y.d.e.d.t.t.len y.d.e.d.t.t.cap, .int .i64 y.d.e.d.t.t.n, .int .i64 y.d.e.d.t.t.s, .slice y.d.e.d.ka y.d.e.d.n y.d.e.d.kc, .slice y.d.v.a y.d.v.len y.d.v.cap, .slice y.d.ta y.d.tb.length y.d.tc, .slice y.d.ka y.d.n y.d.kc, .int .i64 0, .slice (some ⟨gp, 0, none⟩) 1 1, .int .i64 0, .int .i64 0, .slice none 0 0, .int .i64 0, .slice none 0 0, .int .i64 0, .int .i64 0, .slice none 0 0, .slice none 0 0, .slice none 0 0, .slice none 0 0] 52 (0, 0))
    have HGQ : Hd (W1.heap.size ≤ wCP.heap.size) := HZ.o.size
    have HNQ : Hd (∀ q ∈ y.fr, q ≠ wCP.heap.size) := fun q hq => by have := (HC.o.i q hq).2; omega
    have HPQ : Hd (gp ≠ wCP.heap.size) := (show gp ≠ _ by have := HPB.o.1; omega)
    obtain ⟨gq, hgq⟩ : ∃ b, b = wCP.heap.size := ⟨_, rfl⟩
    rw [← hgq] at HQB HGQ HNQ HPQ ⊢
    clear hgq
    have HBn := iH (bl_trans HB.o hb2)
    have HXn := iH (HX.o.below hb2)
    have HOn := iH (HO.o.below hb2)
    have HYn := iH (HY.o.keep (Stay.below hb2 fun q hq => (HC.o.i q hq).2))
    have HCn := iH (HC.o.mono nR hb2.size)
    have HPBn := iH (HPB.o.below hb2)
    generalize wCP.alloc (.cells #[.int .i64 y.d.k, .slice y.d.pa y.d.pn y.d.pc, .int .i64 y.d.e.d.k, .int .i64 y.d.e.d.op, .slice y.d.e.d.v.a y.d.e.d.v.len y.d.e.d.v.cap, .int .i64 y.d.e.d.t.t.k, .slice y.d.e.d.t.t.a y.d.e.d.t.t.len y.d.e.d.t.t.cap, .int .i64 y.d.e.d.t.t.n, .int .i64 y.d.e.d.t.t.s, .slice y.d.e.d.ka y.d.e.d.n y.d.e.d.kc, .slice y.d.v.a y.d.v.len y.d.v.cap, .slice y.d.ta y.d.tb.length y.d.tc, .slice y.d.ka y.d.n y.d.kc, .int .i64 0, .slice (some ⟨gp, 0, none⟩) 1 1, .int .i64 0, .int .i64 0, .slice none 0 0, .int .i64 0, .slice none 0 0, .int .i64 0, .int .i64 0, .slice none 0 0, .slice none 0 0, .slice none 0 0, .slice none 0 0] 52) = wQ at *
    clear HB HX HO HY HC HPB hb2 HZ
    have HB := HBn
    have HX := HXn
    have HO := HOn
    have HY := HYn
    have HC := HCn
    have HPB := HPBn
    clear HBn HXn HOn HYn HCn HPBn
    refine tqB 10 29 (v := .agg #[.int .i64 1, .slice none 0 0, .int .i64 0, .int .i64 0, .slice none 0 0, .int .i64 0, .slice none 0 0, .int .i64 0, .int .i64 0, .slice none 0 0, .slice none 0 0, .slice none 0 0, .slice (some ⟨gq, 0, none⟩) 2 2]) ?_
    have hst : wQ.there (w.heap.size + 1) 0 13 := HO.o.there 0 13 (by simp)
    have on : (#[.int .i64 1, .slice none 0 0, .int .i64 0, .int .i64 0, .slice none 0 0, .int .i64 0, .slice none 0 0, .int .i64 0, .int .i64 0, .slice none 0 0, .slice none 0 0, .slice none 0 0, .slice (some ⟨gq, 0, none⟩) 2 2] : Array Value).all (·.oneCell') = true := all_oneCell_toArray (cs := [.int .i64 1, .slice none 0 0, .int .i64 0, .int .i64 0, .slice none 0 0, .int .i64 0, .slice none 0 0, .int .i64 0, .int .i64 0, .slice none 0 0, .slice none 0 0, .slice none 0 0, .slice (some ⟨gq, 0, none⟩) 2 2]) (by simp [Value.oneCell'])
    have hrd : (wQ.setCells (w.heap.size + 1) 0 [.int .i64 1, .slice none 0 0, .int .i64 0, .int .i64 0, .slice none 0 0, .int .i64 0, .slice none 0 0, .int .i64 0, .int .i64 0, .slice none 0 0, .slice none 0 0, .slice none 0 0, .slice (some ⟨gq, 0, none⟩) 2 2]).rangeAt (w.heap.size + 1) 0 [.int .i64 1, .slice none 0 0, .int .i64 0, .int .i64 0, .slice none 0 0, .int .i64 0, .slice none 0 0, .int .i64 0, .int .i64 0, .slice none 0 0, .slice none 0 0, .slice none 0 0, .slice (some ⟨gq, 0, none⟩) 2 2] := World.rangeAt_setCells_same _ _ _ _ hst
    have hbf := iH (below_sets (w0 := w) (w.heap.size + 1) (by omega) [.int .i64 1, .slice none 0 0, .int .i64 0, .int .i64 0, .slice none 0 0, .int .i64 0, .slice none 0 0, .int .i64 0, .int .i64 0, .slice none 0 0, .slice none 0 0, .slice none 0 0, .slice (some ⟨gq, 0, none⟩) 2 2] 0 wQ HB.o)
    have hsf : Hd ((wQ.setCells (w.heap.size + 1) 0 [.int .i64 1, .slice none 0 0, .int .i64 0, .int .i64 0, .slice none 0 0, .int .i64 0, .slice none 0 0, .int .i64 0, .int .i64 0, .slice none 0 0, .slice none 0 0, .slice none 0 0, .slice (some ⟨gq, 0, none⟩) 2 2]).heap.size = wQ.heap.size) := (but_sets (w.heap.size + 1) [.int .i64 1, .slice none 0 0, .int .i64 0, .int .i64 0, .slice none 0 0, .int .i64 0, .slice none 0 0, .int .i64 0, .int .i64 0, .slice none 0 0, .slice none 0 0, .slice none 0 0, .slice (some ⟨gq, 0, none⟩) 2 2] 0 wQ).size
    have huf : Hd (But (w.heap.size + 1) wQ (wQ.setCells (w.heap.size + 1) 0 [.int .i64 1, .slice none 0 0, .int .i64 0, .int .i64 0, .slice none 0 0, .int .i64 0, .slice none 0 0, .int .i64 0, .int .i64 0, .slice none 0 0, .slice none 0 0, .slice none 0 0, .slice (some ⟨gq, 0, none⟩) 2 2])) := but_sets (w.heap.size + 1) [.int .i64 1, .slice none 0 0, .int .i64 0, .int .i64 0, .slice none 0 0, .int .i64 0, .slice none 0 0, .int .i64 0, .int .i64 0, .slice none 0 0, .slice none 0 0, .slice none 0 0, .slice (some ⟨gq, 0, none⟩) 2 2] 0 wQ
    have hxf := iH (HX.o.upper huf.o (by omega))
    refine rqA 11 fun K hK => ?_
    refine step_storeV 52 (w.heap.size + 1) 0 #[.int .i64 1, .slice none 0 0, .int .i64 0, .int .i64 0, .slice none 0 0, .int .i64 0, .slice none 0 0, .int .i64 0, .int .i64 0, .slice none 0 0, .slice none 0 0, .slice none 0 0, .slice (some ⟨gq, 0, none⟩) 2 2] hst on ?_
    refine hK.out _ _ ?_ fun hHeld => ?_
    · exact ⟨hbf.o, hxf.o⟩
    clear hK K hst on hHeld
    try simp only [Act.put]
    generalize wQ.setCells (w.heap.size + 1) 0 [.int .i64 1, .slice none 0 0, .int .i64 0, .int .i64 0, .slice none 0 0, .int .i64 0, .slice none 0 0, .int .i64 0, .int .i64 0, .slice none 0 0, .slice none 0 0, .slice none 0 0, .slice (some ⟨gq, 0, none⟩) 2 2] = W5 at *
    refine wpAnyH_done (by kernel_rfl) ?_ _
    go_wp2
    try simp only [Exit.inBlock, Exit.then]
    refine bodyPost_ret (v := .agg #[.int .i64 1, .slice none 0 0, .int .i64 0, .int .i64 0, .slice none 0 0, .int .i64 0, .slice none 0 0, .int .i64 0, .int .i64 0, .slice none 0 0, .slice none 0 0, .slice none 0 0, .slice (some ⟨gq, 0, none⟩) 2 2]) ?_ rfl ?_
    · exact results_cell rfl rfl (run_loadVar_mid (P := Tryz.prog) _ (w.heap.size + 1) 0 52 [.int .i64 1, .slice none 0 0, .int .i64 0, .int .i64 0, .slice none 0 0, .int .i64 0, .slice none 0 0, .int .i64 0, .int .i64 0, .slice none 0 0, .slice none 0 0, .slice none 0 0, .slice (some ⟨gq, 0, none⟩) 2 2] _ hrd Tryz.underlying52 rfl (by kernel_rfl))
    have hE := HND.o.e0 (by rw [HK.o]; unfold hasE; decide)
    have hV := HND.o.v0 (by rw [HK.o]; unfold hasV; decide)
    have hT := HND.o.t0 (by rw [HK.o]; decide)
    exact nest_end HK.o hE hV hT HEL.o HPL.o HBW.o HG.o HY.o HC.o HE.o HPB.o HQB.o HGP.o HGQ.o HNP.o HNQ.o HPQ.o huf.o hbf.o
 have HK8 := iH h8
 have HK7 := iH h7
 have HK0 := iH h0
 have hk0 := HND.o.k0
 have hk8 := HND.o.k8
 have c25 := HX.o.2 25 _ rfl
 have le : W1.rangeAt w.heap.size 17 d.e.d.cl := HX.o.range 17 _ rfl
 have le2 : (W1.alloc (.cells zGa 52)).rangeAt w.heap.size 17 d.e.d.cl := (HX.o.below (bl_a _)).range 17 _ rfl
 have hth : (W1.alloc (.cells zGa 52)).there W1.heap.size 0 13 := (OB.new W1 zGa 52).there 0 13 (by simp)
 have one1 : ((gA d.k (.slice none 0 0) d.e.d d.v (.slice none 0 0) (.slice none 0 0)) : Array Value).all (·.oneCell') = true := all_oneCell_toArray (cs := (gL d.k (.slice none 0 0) d.e.d d.v (.slice none 0 0) (.slice none 0 0))) (by simp [Value.oneCell'])
 have HOB : Hd (OB ((W1.alloc (.cells zGa 52)).setCells W1.heap.size 0 (gL d.k (.slice none 0 0) d.e.d d.v (.slice none 0 0) (.slice none 0 0))) W1.heap.size (gL d.k (.slice none 0 0) d.e.d d.v (.slice none 0 0) (.slice none 0 0))) := (OB.new W1 zGa 52).put (gL d.k (.slice none 0 0) d.e.d d.v (.slice none 0 0) (.slice none 0 0)) 0 (gL d.k (.slice none 0 0) d.e.d d.v (.slice none 0 0) (.slice none 0 0)) (by simp) rfl
 have HZ2 : Hd (Bl W1 ((W1.alloc (.cells zGa 52)).setCells W1.heap.size 0 (gL d.k (.slice none 0 0) d.e.d d.v (.slice none 0 0) (.slice none 0 0)))) := below_sets (w0 := W1) W1.heap.size nR (gL d.k (.slice none 0 0) d.e.d d.v (.slice none 0 0) (.slice none 0 0)) 0 _ (bl_a _)
 go_wp2_with (first | (with_reducible refine wpv_at ?_; refine ldr rfl rfl rfl Tryz.underlying42 le rfl ?_; try simp only [Act.put, sA, zA, cA]) | (with_reducible refine wpv_at ?_; refine ldr rfl rfl rfl Tryz.underlying42 le2 rfl ?_; try simp only [Act.put, sA, zA, cA]) | (with_reducible refine wpv_at ?_; refine store_stopV 52 (.tmp 3) (.tmp 38) rfl ?_))
 change wpList _ _ _ _ _ _
 refine wpList_store_mid rfl 52 _ _ rfl W1.heap.size 0 (gA d.k (.slice none 0 0) d.e.d d.v (.slice none 0 0) (.slice none 0 0)) rfl rfl hth (by kernel_rfl) one1 ?_
 try simp only [Act.put]
 generalize ((W1.alloc (.cells zGa 52)).setCells W1.heap.size 0 (gL d.k (.slice none 0 0) d.e.d d.v (.slice none 0 0) (.slice none 0 0))) = W2 at *
 clear hth one1 le le2 c25 c0 hk0 hk8
 go_wp2_with fail
 go_loopw [4] (fun i wr => ∃ (j : Nat) (v : Value) (k' : Nat → AT), j ≤ d.n ∧ i = .int .i64 j ∧ Hd (Gath (fun x : AT => x.d.cells) AT.fr (fun x W => x.hang w0 W) 52 13 W2.heap.size W1.heap.size 12 [.int .i64 d.k, .slice none 0 0, .int .i64 d.e.d.k, .int .i64 d.e.d.op, .slice d.e.d.v.a d.e.d.v.len d.e.d.v.cap, .int .i64 d.e.d.t.t.k, .slice d.e.d.t.t.a d.e.d.t.t.len d.e.d.t.t.cap, .int .i64 d.e.d.t.t.n, .int .i64 d.e.d.t.t.s, .slice d.e.d.ka d.e.d.n d.e.d.kc, .slice d.v.a d.v.len d.v.cap, .slice none 0 0, .slice none 0 0] [] W1 W2 wr v j k') ∧ Hd (∀ i, i < j → Mean (kid i) (k' i)))
  (fun i _ => d.n - (intOf i).toNat)
 case atStart => exact ⟨0, _, fun _ => .nil, nZ, rfl, Gath.nil HZ2.o HOB.o nR (fun q hq => by cases hq), fun i hi => absurd hi nN⟩
 obtain ⟨j, v, k', hj, rfl, HQ, HS⟩ := hrel
 have HXr := iH (HX.o.below HQ.o.bel)
 have HBr := iH (bl_trans HB.o HQ.o.bel)
 have cx := HXr.o.2 27 _ rfl
 by_cases hlj : j < d.n
 · obtain ⟨b, off, hka, _, hlt, hc⟩ := HR.o.resolve_left (by omega)
   have HC : Hd (∀ W, Bl w W → W.rangeAt b (off + j * 28) (kid j).d.cl) := fun W hb c u hu => (hb.cell (p := ⟨b, off + j * 28 + c, none⟩) hlt).trans (hc j hlj c u hu)
   have HXs : Hd (Box wr w.heap.size (wL d.k d.ord d.p d.e.d d.v (.slice d.ta d.tb.length d.tc) (.slice (some ⟨b, off, none⟩) d.n d.kc))) := (show Box _ _ _ by have h := HXr.o; rwa [hka] at h)
   rw [hka] at cx
   clear hc hlt hka HXr
   go_wp2_with fail
   clear cx
   refine wqd (fun w' => Bl w w' ∧ Box w' w.heap.size (wL d.k d.ord d.p d.e.d d.v (.slice d.ta d.tb.length d.tc) (.slice (some ⟨b, off, none⟩) d.n d.kc))) ?_ fun hHeld => ?_
   · exact ⟨Below.drew HBr.o, HXs.o.below bdr⟩
   have HQ2 := iH (HQ.o.below (okHG _) bdr)
   have HB2 : Hd (Bl w wr.drew) := Below.drew HBr.o
   have HX2 := iH (HXs.o.below bdr)
   clear HQ HBr HXs
   have HQ := HQ2
   clear HQ2
   generalize wr.drew = w_ at *
   refine tqB 0 46 ?_
   refine tqB 2 48 ?_
   refine tqB 3 49 (v := .slice (some ⟨b, off, none⟩) d.n d.kc) (hy := by intro w' hSw; have c0 := hSw.2.2 27 _ rfl; go_simp; (try with_reducible rfl)) ?_
   refine tqB 4 50 (v := .int .i64 j) ?_
   refine tqB 5 51 (v := .pointer (some ⟨b, off + j * 28, none⟩)) ?_
   refine ldq 6 52 Tryz.underlying46 (fun w' h => HC.o w' h.1) ?_
   refine wpAnyH_ready (rs := [1, 7]) (by kernel_rfl) (by simp) ?_
   refine AllReadyH.cons rfl (fun K hK => ?_) (AllReadyH.cons rfl (fun K hK => ?_) (AllReadyH.nil))
   clear hHeld
   have cv := (HQ.o.box.2 12 v rfl).1
   go_simp
   refine hK.out _ _ ?_ fun hHeld => ?_
   · exact ⟨HB2.o, HX2.o⟩
   clear hK K cv
   try simp only [Act.put, sA, zA, cA]
   rotate_left
   go_simp
   refine (HI.o j hlj _ HB2.o).mono ?_
   rintro r wC ⟨y, rfl, hy, hc, he, hb2⟩
   clear hHeld
   have HE := iH he
   have HY := iH (HQ.o.call (okHG _) hb2 hy hc)
   have HB3 := iH (bl_trans HB2.o hb2)
   have HX3 := iH (HX2.o.below hb2)
   clear hy hc he hb2 HQ HB2 HX2
   have HB2 := HB3
   have HX2 := HX3
   clear HB3 HX3
   refine hK.out _ _ ?_ fun hHeld => ?_
   · exact ⟨HB2.o, HX2.o⟩
   clear hK K
   try simp only [Act.put, sA, zA, cA]
   rotate_left
   refine rqA 7 fun K hK => ?_
   go_simp
   refine (HI.o j hlj _ HB2.o).mono ?_
   rintro r wC ⟨y, rfl, hy, hc, he, hb2⟩
   clear hHeld
   have HE := iH he
   have HY := iH (HQ.o.call (okHG _) hb2 hy hc)
   have HB3 := iH (bl_trans HB2.o hb2)
   have HX3 := iH (HX2.o.below hb2)
   clear hy hc he hb2 HQ HB2 HX2
   have HB2 := HB3
   have HX2 := HX3
   clear HB3 HX3
   refine hK.out _ _ ?_ fun hHeld => ?_
   · exact ⟨HB2.o, HX2.o⟩
   clear hK K
   try simp only [Act.put, sA, zA, cA]
   rotate_left
   refine wpAnyH_ready (rs := [1, 8]) (by kernel_rfl) (by simp) ?_
   refine AllReadyH.cons rfl (fun K hK => ?_) (AllReadyH.cons rfl (fun K hK => ?_) (AllReadyH.nil))
   clear hHeld
   have cv := (HY.o.g.box.2 12 v rfl).1
   go_simp
   refine hK.out _ _ ?_ fun hHeld => ?_
   · exact ⟨HB2.o, HX2.o⟩
   clear hK K cv
   try simp only [Act.put, sA, zA, cA]
   rotate_left
   clear hHeld
   go_simp
   refine hK.out _ _ ?_ fun hHeld => ?_
   · exact ⟨bl_alloc HB2.o _, HX2.o.below (bl_a _)⟩
   clear hK K
   try simp only [Act.put, sA, zA, cA]
   have HN : Hd (∀ j u, (y.d.cl : List Value)[j]? = some u → (wC.alloc (.cells y.d.ar 52)).cell? ((⟨wC.heap.size, 0, none⟩ : Addr).add j) = some u) := fun j u hu => World.news_of_block (Go.heap_alloc_new _ _) j u hu
   have HY3 := iH (HY.o.below (okHG _) (bl_a (w := wC) (.cells y.d.ar 52)))
   have HB3 := iH (bl_alloc HB2.o (.cells y.d.ar 52))
   have HX3 := iH (HX2.o.below (bl_a (w := wC) (.cells y.d.ar 52)))
   clear HY HB2 HX2
   have HY := HY3
   have HB2 := HB3
   have HX2 := HX3
   clear HY3 HB3 HX3
   obtain ⟨gb, hgb⟩ : ∃ b, b = wC.heap.size := ⟨_, rfl⟩
   rw [← hgb] at HN ⊢
   clear hgb
   generalize wC.alloc (.cells y.d.ar 52) = wB at *
   rotate_left
   refine rqA 8 fun K hK => ?_
   clear hHeld
   go_simp
   refine hK.out _ _ ?_ fun hHeld => ?_
   · exact ⟨bl_alloc HB2.o _, HX2.o.below (bl_a _)⟩
   clear hK K
   try simp only [Act.put, sA, zA, cA]
   have HN : Hd (∀ j u, (y.d.cl : List Value)[j]? = some u → (wC.alloc (.cells y.d.ar 52)).cell? ((⟨wC.heap.size, 0, none⟩ : Addr).add j) = some u) := fun j u hu => World.news_of_block (Go.heap_alloc_new _ _) j u hu
   have HY3 := iH (HY.o.below (okHG _) (bl_a (w := wC) (.cells y.d.ar 52)))
   have HB3 := iH (bl_alloc HB2.o (.cells y.d.ar 52))
   have HX3 := iH (HX2.o.below (bl_a (w := wC) (.cells y.d.ar 52)))
   clear HY HB2 HX2
   have HY := HY3
   have HB2 := HB3
   have HX2 := HX3
   clear HY3 HB3 HX3
   obtain ⟨gb, hgb⟩ : ∃ b, b = wC.heap.size := ⟨_, rfl⟩
   rw [← hgb] at HN ⊢
   clear hgb
   generalize wC.alloc (.cells y.d.ar 52) = wB at *
   rotate_left
   refine rqA 8 fun K hK => ?_
   clear hHeld
   go_simp
   refine hK.out _ _ ?_ fun hHeld => ?_
   · exact ⟨bl_alloc HB2.o _, HX2.o.below (bl_a _)⟩
   clear hK K
   try simp only [Act.put, sA, zA, cA]
   have HN : Hd (∀ j u, (y.d.cl : List Value)[j]? = some u → (wC.alloc (.cells y.d.ar 52)).cell? ((⟨wC.heap.size, 0, none⟩ : Addr).add j) = some u) := fun j u hu => World.news_of_block (Go.heap_alloc_new _ _) j u hu
   have HY3 := iH (HY.o.below (okHG _) (bl_a (w := wC) (.cells y.d.ar 52)))
   have HB3 := iH (bl_alloc HB2.o (.cells y.d.ar 52))
   have HX3 := iH (HX2.o.below (bl_a (w := wC) (.cells y.d.ar 52)))
   clear HY HB2 HX2
   have HY := HY3
   have HB2 := HB3
   have HX2 := HX3
   clear HY3 HB3 HX3
   obtain ⟨gb, hgb⟩ : ∃ b, b = wC.heap.size := ⟨_, rfl⟩
   rw [← hgb] at HN ⊢
   clear hgb
   generalize wC.alloc (.cells y.d.ar 52) = wB at *
   rotate_left
   refine rqA 1 fun K hK => ?_
   clear hHeld
   have cv := (HY.o.g.box.2 12 v rfl).1
   go_simp
   refine hK.out _ _ ?_ fun hHeld => ?_
   · exact ⟨HB2.o, HX2.o⟩
   clear hK K cv
   try simp only [Act.put, sA, zA, cA]
   rotate_left
   all_goals
    obtain ⟨kn, hk1, hk2⟩ : ∃ kn : Nat → AT, (∀ i, i < j → kn i = k' i) ∧ kn j = y := ⟨fun i => if i = j then y else k' i, fun i hi => if_neg (by omega), if_pos rfl⟩
    have HK1 := iH hk1
    have HK2 := iH hk2
    clear hk1 hk2
    have HC1 : Hd (∀ i, i < j → (fun i => (kn i).d.cells) i = (fun i => (k' i).d.cells) i) := fun i hi => (show (kn i).d.cells = _ by rw [HK1.o i hi])
    have HC2 : Hd ((fun i => (kn i).d.cells) j = y.d.cl) := (show (kn j).d.cells = _ by rw [HK2.o]; rfl)
    have one1 : ∀ u ∈ (y.d.cl : List Value), u.oneCell' = true := (by intro u hu; simp only [List.mem_cons, List.not_mem_nil, or_false] at hu; rcases hu with rfl | rfl | rfl | rfl | rfl | rfl | rfl | rfl | rfl | rfl | rfl | rfl | rfl <;> rfl)
    have HOW := iH HY.o.g.own
    have hMs := HY.o.g.hM
    have hjn : j ≤ 1048576 := by have := HN0.o; omega
    clear hHeld
    refine rqA 9 fun K hK => ?_
    refine stepCC (.tmp 47) (.tmp 54) 55 50 52 13 216 (.agg zGa) Tryz.underlying50 infoA13 W2.heap.size v j (fun i => (k' i).d.cells) HOW ⟨gb, 0, none⟩ 1 y.d.cl HN one1 hjn hMs (fun i => (kn i).d.cells) HC1 HC2 ?_
    intro g9 c9 w9 HO9 HA9 HG9 HD9
    clear one1 HC1 HC2 HN HOW hMs hjn
    have HB9 : Hd (Bl w w9) := HB2.o.trans (HD9.o.mono (by have := HB.o.size; have := HY.o.g.g0; have := HY.o.g.gM; omega))
    have HX9 : Hd (Box w9 w.heap.size (wL d.k d.ord d.p d.e.d d.v (.slice d.ta d.tb.length d.tc) (.slice (some ⟨b, off, none⟩) d.n d.kc))) := HX2.o.bel8 HD9.o (by have := HX.o.1; have := HY.o.g.g0; have := HY.o.g.gM; omega)
    refine hK.out _ _ ?_ fun hHeld => ?_
    · exact ⟨HB9.o, HX9.o⟩
    clear hK K
    try simp only [Act.put, sA, zA, cA]
    refine tqB 10 56 ?_
    clear hHeld
    have HGn := iH (HY.o.add (okHG _) HK1.o HK2.o HO9.o HA9.o HG9.o HD9.o)
    have c9 := ((HY.o.g.box.bel8 HD9.o HY.o.g.gM).2 12 v rfl).1
    have f9 := ((HY.o.g.box.bel8 HD9.o HY.o.g.gM).2 12 v rfl).2
    have HGB : Hd (w.heap.size < W1.heap.size) := (show w.heap.size < W1.heap.size by have := HX.o.1; have := HY.o.g.g0; omega)
    refine rqA 11 fun K hK => ?_
    go_simp
    refine hK.out _ _ ?_ fun hHeld => ?_
    · exact ⟨bl_set HB9.o (by show w.heap.size ≤ W1.heap.size; have := HGB.o; omega) _, HX9.o.upper ((But.refl W1.heap.size w9).set 12 _) (by have := HGB.o; omega)⟩
    clear hK K hHeld c9 f9 HY HO9 HA9 HG9 HD9 HB9 HX9 HB2 HX2
    try simp only [Act.put, sA, zA, cA]
    generalize w9.setCell ⟨W1.heap.size, 12, none⟩ _ = wS at *
    refine wpAnyH_done (by kernel_rfl) ?_ _
    have hle9 : d.n ≤ 1048576 := HN0.o
    go_wp2
    go_roundw
    case rel => exact ⟨j + 1, _, kn, by omega, by go_num, HGn.o, fun i hi => (if e : i = j then (by rw [e, HK2.o]; exact HE.o) else (by rw [HK1.o i (by omega)]; exact HS.o i (by omega)))⟩
    case measure => simp [intOf]; omega
 obtain rfl : j = d.n := by omega
 obtain ⟨a', c', rfl, hcc, hK, hZ, hCp⟩ := HQ.o.fin
 have HF : Hd (OB wr W1.heap.size (gL d.k (.slice none 0 0) d.e.d d.v (.slice none 0 0) (.slice a' d.n c'))) := HQ.o.box
 have HO9 := iH (HO.o.below HQ.o.bel)
 have lf : wr.rangeAt W1.heap.size 0 (gL d.k (.slice none 0 0) d.e.d d.v (.slice none 0 0) (.slice a' d.n c')) := HF.o.box.range 0 _ rfl
 have hst : wr.there (w.heap.size + 1) 0 13 := HO9.o.there 0 13 (by simp)
 have on : ((gA d.k (.slice none 0 0) d.e.d d.v (.slice none 0 0) (.slice a' d.n c')) : Array Value).all (·.oneCell') = true := all_oneCell_toArray (cs := (gL d.k (.slice none 0 0) d.e.d d.v (.slice none 0 0) (.slice a' d.n c'))) (by simp [Value.oneCell'])
 have hrd : (wr.setCells (w.heap.size + 1) 0 (gL d.k (.slice none 0 0) d.e.d d.v (.slice none 0 0) (.slice a' d.n c'))).rangeAt (w.heap.size + 1) 0 (gL d.k (.slice none 0 0) d.e.d d.v (.slice none 0 0) (.slice a' d.n c')) := World.rangeAt_setCells_same _ _ _ _ hst
 have hbf := iH (below_sets (w0 := w) (w.heap.size + 1) (by omega) (gL d.k (.slice none 0 0) d.e.d d.v (.slice none 0 0) (.slice a' d.n c')) 0 wr HBr.o)
 have hsf : Hd ((wr.setCells (w.heap.size + 1) 0 (gL d.k (.slice none 0 0) d.e.d d.v (.slice none 0 0) (.slice a' d.n c'))).heap.size = wr.heap.size) := (but_sets (w.heap.size + 1) (gL d.k (.slice none 0 0) d.e.d d.v (.slice none 0 0) (.slice a' d.n c')) 0 wr).size
 have huf : Hd (But (w.heap.size + 1) wr (wr.setCells (w.heap.size + 1) 0 (gL d.k (.slice none 0 0) d.e.d d.v (.slice none 0 0) (.slice a' d.n c')))) := but_sets (w.heap.size + 1) (gL d.k (.slice none 0 0) d.e.d d.v (.slice none 0 0) (.slice a' d.n c')) 0 wr
 have HKz := iH hK
 have HCz := iH hCp
 clear hK hZ hCp hcc HI hj hlj HXr
 go_wp2_with (first | (with_reducible refine wpv_at ?_; refine ldr rfl rfl rfl Tryz.underlying52 lf rfl ?_; try simp only [Act.put, sA, zA, cA]) | (with_reducible refine wpv_at ?_; refine store_stopV 52 (.tmp 2) (.tmp 57) rfl ?_))
 change wpList _ _ _ _ _ _
 refine wpList_store_mid rfl 52 _ _ rfl (w.heap.size + 1) 0 (gA d.k (.slice none 0 0) d.e.d d.v (.slice none 0 0) (.slice a' d.n c')) rfl rfl hst (by kernel_rfl) on ?_
 try simp only [Act.put]
 generalize wr.setCells (w.heap.size + 1) 0 (gL d.k (.slice none 0 0) d.e.d d.v (.slice none 0 0) (.slice a' d.n c')) = W5 at *
 go_wp2
 try simp only [Exit.inBlock, Exit.then]
 refine bodyPost_ret (v := .agg (gA d.k (.slice none 0 0) d.e.d d.v (.slice none 0 0) (.slice a' d.n c'))) ?hre rfl ?hpe
 case hre => exact results_cell rfl rfl (run_loadVar_mid (P := Tryz.prog) _ (w.heap.size + 1) 0 52 (gL d.k (.slice none 0 0) d.e.d d.v (.slice none 0 0) (.slice a' d.n c')) _ hrd Tryz.underlying52 rfl (by kernel_rfl))
 have hT := HND.o.t0 HK7.o
 have hw2 : W1.heap.size ≤ W2.heap.size := HZ2.o.size
 have hw0 := HBW.o.size
 have hg := HG.o
 have hw3 : W2.heap.size ≤ wr.heap.size := HQ.o.hM
 have q1 := fun i hi => (HQ.o.ok i hi).keep (Stay.but huf.o fun q hq => by have := (HQ.o.cp.i q (catB_mem (f := fun i => (k' i).fr) hi hq)).1; omega)
 have q2 := krow_keep (HKz.o.base (Nat.le_trans hw0 (by omega) : w0.heap.size ≤ W2.heap.size)) (Stay.but huf.o fun q hq => by have := (HCz.o.i q (List.mem_append_left _ hq)).1; omega)
 exact ⟨AT.mk ⟨d.k, none, 0, 0, AN0.pat, d.e, d.v, none, 0, [], a', c', d.n⟩ k', rfl, ⟨.inl rfl, fun i hi => absurd hi nN, nZ, HE0.o, HV.o, TRow0 _ _, nZ, HN0.o, q2, q1⟩, HCz.o.mono (by omega) (Nat.le_of_eq hsf.o.symm), ⟨rfl, ET.same.refl HE0.o, rfl, by rw [hT], .inl ⟨HK0.o, fun h => absurd h HK8.o, fun _ => rfl, rfl, HS.o⟩⟩, hbf.o⟩
theorem l7m_any (e : PT) : ∀ (deep : Int) (w0 w : World), Bl w0 w → e.lies 0 w0 → pOk e deep → Calls Tryz.prog 62 #[.agg e.d.ar] w fun r w' => ∃ y : AT, r = .returned (.agg y.d.ar) ∧ y.hang w0 w' ∧ Cp w.heap.size w'.heap.size y.fr ∧ Mean e y ∧ Bl w w' := by
 induction e with
 | nil => exact fun _ _ _ _ h => False.elim h
 | mk d kid ih => exact fun deep w0 w hbw h hp => l7m_of d kid deep w0 w hbw h hp fun i hi W hb => ih i (deep + 1) w0 W (bl_trans hbw hb) (h.2.2.2.2.2.2.2 i hi) (hp.2.2 i hi)
end Go.Proofs.YtoloadogihbdeaaGreat
