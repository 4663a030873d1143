import Derived.Test.YtoloadogihbdeaaGreatMk48
import Derived.Test.YtoloadogihbdeaaGreatMk37
namespace Go.Proofs.YtoloadogihbdeaaGreat
open Go.RowKit Go.Deep
set_option maxHeartbeats 40000000
set_option maxRecDepth 100000
theorem implPlanOk_any (e : PT) (w : World) (h : e.lies 0 w) : Calls Tryz.prog 38 #[.agg e.d.ar] w (Tells (planOk e) w) := by
 have HP1 : Hd (∀ (W : World), Bl w W → Ctr W (w.heap.size + 1) 1440 → Cl 88 #[.pointer (some ⟨w.heap.size + 1, 0, none⟩), .agg #[.int .i64 1, .int .i64 480, .int .i64 e.d.k, .int .i64 e.d.ord, .slice e.d.p.s.v.a e.d.p.s.v.len e.d.p.s.v.cap, .int .i64 e.d.p.s.t.t.k, .slice e.d.p.s.t.t.a e.d.p.s.t.t.len e.d.p.s.t.t.cap, .int .i64 e.d.p.s.t.t.n, .int .i64 e.d.p.s.t.t.s, .slice e.d.p.p.v.a e.d.p.p.v.len e.d.p.p.v.cap, .int .i64 e.d.p.p.t.t.k, .slice e.d.p.p.t.t.a e.d.p.p.t.t.len e.d.p.p.t.t.cap, .int .i64 e.d.p.p.t.t.n, .int .i64 e.d.p.p.t.t.s, .slice e.d.p.o.v.a e.d.p.o.v.len e.d.p.o.v.cap, .int .i64 e.d.p.o.t.t.k, .slice e.d.p.o.t.t.a e.d.p.o.t.t.len e.d.p.o.t.t.cap, .int .i64 e.d.p.o.t.t.n, .int .i64 e.d.p.o.t.t.s, .int .i64 e.d.e.d.k, .int .i64 e.d.e.d.op, .slice e.d.e.d.v.a e.d.e.d.v.len e.d.e.d.v.cap, .int .i64 e.d.e.d.t.t.k, .slice e.d.e.d.t.t.a e.d.e.d.t.t.len e.d.e.d.t.t.cap, .int .i64 e.d.e.d.t.t.n, .int .i64 e.d.e.d.t.t.s, .slice e.d.e.d.ka e.d.e.d.n e.d.e.d.kc, .slice e.d.v.a e.d.v.len e.d.v.cap, .slice e.d.ta e.d.tb.length e.d.tc, .slice e.d.ka e.d.n e.d.kc]] W (CtrAns (pOk e 1) (psz e) (w.heap.size + 1) 1440 W)) := fun W hb hc => planOk_any e 1 1440 (w.heap.size + 1) w W h hb (Nat.le_succ _) hc (by omega) (by omega) (by omega) (by omega)
 have HV : Hd (∀ (W : World) (g B : Nat), VQ w W B g (.slice none 0 0) [] → pc e ≤ 1000000 → Cl 89 #[.pointer (some ⟨g, 0, none⟩), .agg e.d.ar] W (AddQ w B g (.slice none 0 0) (pV e []) W)) := fun W g B hV hL => addPlan_any e (.slice none 0 0) [] B g w W h hV (by simpa using hL)
 have HAC : Hd (pOk e 1 → pc e ≤ 5 * psz e) := fun h => pc_le h
 clear h
 have HX : Hd (Box ((w.alloc (.cells e.d.ar 46)).alloc (.cells #[.int .i64 1440] 131)) w.heap.size e.d.cells) := (Box.new w e.d.ar 46 (0, 0)).below (bl_a _)
 have HC : Hd (Ctr ((w.alloc (.cells e.d.ar 46)).alloc (.cells #[.int .i64 1440] 131)) (w.heap.size + 1) 1440) := ⟨by simp, by simp [go_sem], by simp [go_sem]⟩
 have HB : Hd (Bl w ((w.alloc (.cells e.d.ar 46)).alloc (.cells #[.int .i64 1440] 131))) := bl_alloc (bl_a _) _
 go_enter Tryz.func38, Tryz.ntmps38
 go_upto_region 2 with fail
 generalize ((w.alloc (.cells e.d.ar 46)).alloc (.cells #[.int .i64 1440] 131)) = W1 at *
 have lr : W1.rangeAt w.heap.size 0 e.d.cl := HX.o.range 0 _ rfl
 go_wp2_with (with_reducible refine wpq_at ?_; refine ldr rfl rfl rfl Tryz.underlying46 lr rfl ?_; try simp only [Act.put, sA, zA, cA])
 refine (HP1.o W1 HB.o HC.o).mono ?_
 rintro r w3 ⟨q, L', rfl, hq, _, hc3, hp3⟩
 have HB3 : Hd (Bl w w3) := HB.o.trans (hp3.below (Nat.le_succ _) HB.o.size)
 have HX3 : Hd (Box w3 w.heap.size e.d.cells) := HX.o.past hp3 (by omega)
 have HQ : Hd (q = true ↔ pOk e 1 ∧ psz e ≤ 1440) := (show (q = true ↔ _) from hq.trans ⟨fun hh => ⟨hh.1, by have h2 := hh.2; omega⟩, fun hh => ⟨hh.1, by have h2 := hh.2; omega⟩⟩)
 clear HP1 hc3 hp3 hq lr HX HC HB
 cases q
 · have HNO : Hd (¬ planOk e) := fun hh => by have h1 := HQ.o.2 ⟨hh.1, hh.2.1⟩; cases h1
   clear HQ
   go_wp2
   go_ret
   exact Tells.no HNO.o HB3.o
 have HOK : Hd (pOk e 1 ∧ psz e ≤ 1440) := HQ.o.1 rfl
 have lr := fun o => (HX3.o.below (bl_a o)).range 0 e.d.cl rfl
 clear HQ
 go_wp2_with (with_reducible refine wpq_at ?_; refine ldr rfl rfl rfl Tryz.underlying46 (lr _) rfl ?_; try simp only [Act.put, sA, zA, cA])
 clear lr
 refine Calls.mono (HV.o _ w3.heap.size w3.heap.size ?hv ?hl) ?_
 case hv => exact vq_new HB3.o _
 case hl => have h1 := HAC.o HOK.o.1; have h2 := HOK.o.2; omega
 rintro r w5 ⟨v5, L5, rfl, hV5, hR5, hK5⟩
 obtain ⟨a5, c5, rfl, _⟩ := hV5.vl.form
 have HB5 : Hd (Bl w w5) := hV5.bl
 have x5 := hV5.cell
 obtain ⟨n, hnn⟩ : ∃ n, n = L5.length := ⟨_, rfl⟩
 rw [← hnn] at x5
 have HN : Hd (n = (pV e []).length) := (show n = _ by rw [hnn, ← hR5, List.length_map])
 clear hV5 hR5 hK5 hnn HV
 by_cases h8 : n ≤ 8
 · have h8z : (n : Int) ≤ 8 := by omega
   have HY : Hd (planOk e) := ⟨HOK.o.1, HOK.o.2, by rw [← HN.o]; exact h8⟩
   go_wp2
   go_ret
   exact Tells.of ⟨fun _ => HY.o, fun _ => by simp; try omega⟩ HB5.o
 have h8z : ¬ (n : Int) ≤ 8 := by omega
 have HNO : Hd (¬ planOk e) := fun hh => h8 (by rw [HN.o]; exact hh.2.2)
 go_wp2
 go_ret
 refine Tells.of ⟨fun h => ?_, fun hp => absurd hp HNO.o⟩ HB5.o
 exfalso
 simp at h
 omega
theorem meaning_any (e : PT) : ∀ (deep : Int) (w : World), e.lies 0 w → pOk e deep → Calls Tryz.prog 65 #[.agg e.d.ar] w fun r w' => ∃ y : AT, r = .returned (.agg y.d.ar) ∧ y.ow w.heap.size w' ∧ Cp w.heap.size w'.heap.size y.fp ∧ Mean e y ∧ Bl w w' := by
 induction e with
 | nil => exact fun _ _ h => False.elim h
 | mk d kid ih =>
  intro deep w h hp
  have IH : ∀ i, i < d.n → ∀ W, Bl w W → Calls Tryz.prog 65 #[.agg (kid i).d.ar] W fun r w' => ∃ y : AT, r = .returned (.agg y.d.ar) ∧ y.ow W.heap.size w' ∧ Cp W.heap.size w'.heap.size y.fp ∧ Mean (kid i) y ∧ Bl W w' := fun i hi W hb => ih i (deep + 1) W (PT.lies.upper (uB hb) (h.2.2.2.2.2.2.2 i hi)) (hp.2.2 i hi)
  by_cases h0 : d.n = 0
  · exact meaning_0 d kid deep w h hp h0 IH
  exact meaning_1 d kid deep w h hp h0 IH
def AT0 : AT := .mk ⟨0, none, 0, 0, AN0.pat, ET0, SL0, none, 0, [], none, 0, 0⟩ (fun _ => .nil)
theorem AT0_ow (B : Nat) (w : World) : AT0.ow B w := ⟨⟨.inl rfl, fun i hi => absurd hi nN, nZ, (ET0_ow _ _).l, (SL0_own _ _).1, TRow0 _ _, nZ, nZ, .inl rfl, fun i hi => absurd hi nN⟩, ⟨.inl rfl, fun i hi => absurd hi nN, (ET0_ow _ _).z, .inl rfl, ⟨.inl rfl, fun x hx => by cases hx⟩, .inl rfl, fun i hi => absurd hi nN⟩⟩
def MeanA (e : PT) (y : AT) (q : Bool) : Prop := (q = true ∧ planOk e ∧ Mean e y) ∨ (q = false ∧ ¬ planOk e ∧ y = AT0)
theorem implMeaning_any (e : PT) (w : World) (h : e.lies 0 w) : Calls Tryz.prog 20 #[.agg e.d.ar] w fun r w' => ∃ (y : AT) (q : Bool), r = .returned (.tuple #[.agg y.d.ar, .bool q]) ∧ y.ow w.heap.size w' ∧ Cp w.heap.size w'.heap.size y.fp ∧ MeanA e y q ∧ Bl w w' := by
 have HPO := iH (fun W (hb : Bl w W) => implPlanOk_any e W (PT.lies.upper (uB hb) h))
 have HME := iH (fun W (hb : Bl w W) (hp : planOk e) => meaning_any e 1 W (PT.lies.upper (uB hb) h) hp.1)
 have HX := iH ((Box.new w e.d.ar 46 (0, 0)).below (bl_a (.cells zGa 52)))
 have HO : Hd (OB ((w.alloc (.cells e.d.ar 46)).alloc (.cells zGa 52)) (w.heap.size + 1) zGl) := (show OB _ _ _ by have h := OB.new (w.alloc (.cells e.d.ar 46)) zGa 52; simpa using h)
 have HB : Hd (Bl w ((w.alloc (.cells e.d.ar 46)).alloc (.cells zGa 52))) := bl_alloc (bl_a _) _
 clear h
 go_in
 go_upto_region 1 with fail
 generalize ((w.alloc _).alloc _) = W1 at *
 have HG : Hd (w.heap.size + 1 < W1.heap.size) := HO.o.1
 have lp : W1.rangeAt w.heap.size 0 e.d.cl := HX.o.range 0 _ rfl
 go_wp2_with (with_reducible refine wpv_at ?_; refine ldr rfl rfl rfl Tryz.underlying46 lp rfl ?_; try simp only [Act.put, sA, zA, cA])
 refine (HPO.o _ HB.o).mono ?_
 rintro r w2 ⟨q, rfl, hq, hb2⟩
 have HB2 := iH (bl_trans HB.o hb2)
 have HX2 := iH (HX.o.below hb2)
 have HO2 := iH (HO.o.below hb2)
 have HSZ := iH hb2.size
 clear lp hb2 HX HO HB
 cases q
 · have HN : Hd (¬ planOk e) := fun h => by cases hq.2 h
   clear hq HME
   have hst : w2.there (w.heap.size + 1) 0 13 := HO2.o.there 0 13 (by simp)
   have on : (zGa : Array Value).all (·.oneCell') = true := all_oneCell_toArray (cs := zGl) (by simp [Value.oneCell'])
   have hrd : (w2.setCells (w.heap.size + 1) 0 zGl).rangeAt (w.heap.size + 1) 0 zGl := World.rangeAt_setCells_same _ _ _ _ hst
   have hbf := iH (below_sets (w0 := w) (w.heap.size + 1) (by omega) zGl 0 w2 HB2.o)
   have hsf : Hd ((w2.setCells (w.heap.size + 1) 0 zGl).heap.size = w2.heap.size) := (but_sets (w.heap.size + 1) zGl 0 w2).size
   have huf : Hd (Upper (w.heap.size + 1 + 1) w2 (w2.setCells (w.heap.size + 1) 0 zGl)) := upper_sets (w.heap.size + 1) zGl 0 w2
   go_wp2_with (with_reducible refine wpv_at ?_; refine store_stopV 52 (.tmp 2) (.tmp 7) rfl ?_)
   change wpList _ _ _ _ _ _
   refine wpList_store_mid rfl 52 _ _ rfl (w.heap.size + 1) 0 zGa rfl rfl hst (by kernel_rfl) on ?_
   try simp only [Act.put]
   generalize w2.setCells (w.heap.size + 1) 0 zGl = W5 at *
   go_wp2
   try simp only [Exit.inBlock, Exit.then]
   refine bodyPost_ret (v := .tuple #[.agg zGa, .bool false]) ?hrf rfl ?hpf
   case hrf => exact results_cell2 rfl rfl rfl (run_loadVar_mid (P := Tryz.prog) _ (w.heap.size + 1) 0 52 zGl _ hrd Tryz.underlying52 rfl (by kernel_rfl))
   exact ⟨AT0, false, rfl, AT0_ow _ _, Cp.nil _ _, .inr ⟨rfl, HN.o, rfl⟩, hbf.o⟩
 have HPK := iH (hq.1 rfl)
 clear hq
 have lp : w2.rangeAt w.heap.size 0 e.d.cl := HX2.o.range 0 _ rfl
 go_upto_region 3 with fail
 go_wp2_with (with_reducible refine wpv_at ?_; refine ldr rfl rfl rfl Tryz.underlying46 lp rfl ?_; try simp only [Act.put, sA, zA, cA])
 refine (HME.o _ HB2.o HPK.o).mono ?_
 rintro r w3 ⟨y, rfl, hy, hcp, hm, hb3⟩
 have HY := iH hy
 have HC := iH hcp
 have HM := iH hm
 have HB3 := iH (bl_trans HB2.o hb3)
 have HO3 := iH (HO2.o.below hb3)
 clear hy hcp hm hb3 lp HX2 HO2 HB2 HME HPO
 have hst : w3.there (w.heap.size + 1) 0 13 := HO3.o.there 0 13 (by simp)
 have on : (y.d.ar : Array Value).all (·.oneCell') = true := all_oneCell_toArray (cs := y.d.cl) (by simp [Value.oneCell'])
 have hrd : (w3.setCells (w.heap.size + 1) 0 y.d.cl).rangeAt (w.heap.size + 1) 0 y.d.cl := World.rangeAt_setCells_same _ _ _ _ hst
 have hbf := iH (below_sets (w0 := w) (w.heap.size + 1) (by omega) y.d.cl 0 w3 HB3.o)
 have hsf : Hd ((w3.setCells (w.heap.size + 1) 0 y.d.cl).heap.size = w3.heap.size) := (but_sets (w.heap.size + 1) y.d.cl 0 w3).size
 have huf : Hd (Upper (w.heap.size + 1 + 1) w3 (w3.setCells (w.heap.size + 1) 0 y.d.cl)) := upper_sets (w.heap.size + 1) y.d.cl 0 w3
 go_wp2_with (with_reducible refine wpv_at ?_; refine store_stopV 52 (.tmp 2) (.tmp 9) rfl ?_)
 change wpList _ _ _ _ _ _
 refine wpList_store_mid rfl 52 _ _ rfl (w.heap.size + 1) 0 y.d.ar rfl rfl hst (by kernel_rfl) on ?_
 try simp only [Act.put]
 generalize w3.setCells (w.heap.size + 1) 0 y.d.cl = W5 at *
 go_wp2
 try simp only [Exit.inBlock, Exit.then]
 refine bodyPost_ret (v := .tuple #[.agg y.d.ar, .bool true]) ?hrt rfl ?hpt
 case hrt => exact results_cell2 rfl rfl rfl (run_loadVar_mid (P := Tryz.prog) _ (w.heap.size + 1) 0 52 y.d.cl _ hrd Tryz.underlying52 rfl (by kernel_rfl))
 have hg : w.heap.size + 1 + 1 ≤ w2.heap.size := by have := HG.o; have := HSZ.o; omega
 exact ⟨y, true, rfl, (HY.o.upper (huf.o.mono hg)).base (by omega), HC.o.mono (by omega) (Nat.le_of_eq hsf.o.symm), .inl ⟨rfl, HPK.o, HM.o⟩, hbf.o⟩
end Go.Proofs.YtoloadogihbdeaaGreat
