/- Texts put together: TvC TbA TbB TreG TreH TreK TbE TreL TreM -/
import Derived.Test.YtidhcbjhggdncaaMk05
import Derived.Test.YtidhcbjhggdncaaMk03
import Derived.Deep.AppendLies
import Derived.Deep.Upon
import Derived.Test.YtidhcbjhggdncaaMk02
/- TvC -/
namespace Go.Proofs.Ytidhcbjhggdncaa
open Go.RowKit Go.Deep
set_option maxRecDepth 100000

theorem calcT_vt (w0 : World) (p : Int × Int) : VT w0 (calcT p) (tB0 (tK p) (tN p) (tS p)) ∧ (calcT p).isSome = numOk p.1 p.2 := by
  by_cases h : numOk p.1 p.2 = true
  · have e : calcT p = some ⟨tK p, [], tN p, tS p⟩ := by unfold calcT; rw [if_pos h]
    have e2 : tN p = p.1 := by unfold tN; rw [if_pos h]
    have e3 : tS p = p.2 := by unfold tS; rw [if_pos h]
    have hb := h
    simp only [numOk, Bool.and_eq_true, decide_eq_true_eq] at hb
    rw [e, h]
    exact ⟨VT.of rfl (by rw [e2]; omega) (by rw [e2]; omega) (by rw [e3]; omega) (by rw [e3]; omega), rfl⟩
  · have h' : numOk p.1 p.2 = false := by simpa using h
    have e : calcT p = none := by unfold calcT; rw [if_neg h]
    have e1 : tK p = 0 := by unfold tK; rw [if_neg h]
    have e2 : tN p = 0 := by unfold tN; rw [if_neg h]
    have e3 : tS p = 0 := by unfold tS; rw [if_neg h]
    rw [e, h', e1, e2, e3]
    exact ⟨VT.no, rfl⟩
/-- A value without a text may be told of any world. -/
theorem VT.move {w w0 : World} {o : Option TD} {t : TB} (hb : (o.getD zT).bs = []) (h : VT w o t) : VT w0 o t := by
  have e : t.b = [] := (congrArg TD.bs h.td).trans hb
  have hl : t.t.len = 0 := by
    have h1 := h.bs.1.1
    show t.sl.len = 0
    rw [← h1]
    show t.b.length = 0
    rw [e]
    rfl
  exact ⟨⟨⟨h.bs.1.1, h.bs.1.2.1, h.bs.1.2.2.1, .inl hl⟩, .inl hl⟩, h.ft, h.td⟩
theorem ans_bs (t : Int) : ((ans t).getD zT).bs = [] := by
  unfold ans
  split
  · rfl
  · split <;> rfl
theorem lessV_bs (x y : TD) : ((lessV x y).getD zT).bs = [] := by
  unfold lessV
  split
  · exact ans_bs _
  · rfl
theorem twoV_bs (op : Int) (x y : TD) : ((twoV op x y).getD zT).bs = [] := by
  unfold twoV
  split
  · unfold calcT
    split <;> rfl
  · split
    · exact lessV_bs _ _
    · exact ans_bs _
set_option maxHeartbeats 2000000 in
theorem ofTwo_0 (x y : TB) (w : World) (hx : BsF 0 w x.sl) (hy : BsF 0 w y.sl) (fx : x.t.fits) (fy : y.t.fits) : Calls Try.prog 59 #[.int .i64 0, .agg #[.int .i64 x.t.k, .slice x.t.a x.t.len x.t.cap, .int .i64 x.t.n, .int .i64 x.t.s], .agg #[.int .i64 y.t.k, .slice y.t.a y.t.len y.t.cap, .int .i64 y.t.n, .int .i64 y.t.s]] w (ValR w (twoV 0 x.td y.td) w) := by
  have HT := hid (T2.new w x y 24)
  have HC : Hid (∀ W, Below w.heap.size w W → Calls Try.prog 72 #[.int .i64 0, .agg #[.int .i64 x.t.k, .slice x.t.a x.t.len x.t.cap, .int .i64 x.t.n, .int .i64 x.t.s], .agg #[.int .i64 y.t.k, .slice y.t.a y.t.len y.t.cap, .int .i64 y.t.n, .int .i64 y.t.s]] W fun e w' => e = .returned (resV (calcQ 0 x.t.k x.b x.t.n x.t.s y.t.k y.b y.t.n y.t.s)) ∧ Below W.heap.size W w') := fun W hb => implCalc_any 0 x.t.k x.t.n x.t.s y.t.k y.t.n y.t.s x.t.a y.t.a x.t.len x.t.cap y.t.len y.t.cap x.b y.b W (hx.upper (Upper.of_below hb)).1 (hy.upper (Upper.of_below hb)).1 fx.1 fx.2.1 fx.2.2.1 fx.2.2.2 fy.1 fy.2.1 fy.2.2.1 fy.2.2.2
  have E : Hid (twoV 0 x.td y.td = calcT (calcQ 0 x.t.k x.b x.t.n x.t.s y.t.k y.b y.t.n y.t.s)) := (show (if (0 : Int) ≤ 3 then _ else _) = _ by rw [if_pos (by decide)]; rfl)
  obtain ⟨p, hp⟩ : ∃ p, p = calcQ 0 x.t.k x.b x.t.n x.t.s y.t.k y.b y.t.n y.t.s := ⟨_, rfl⟩
  rw [← hp] at HC E
  have HV := hid (calcT_vt w p)
  unfold resV at HC
  obtain ⟨a1, ha1⟩ : ∃ a1, a1 = tK p := ⟨_, rfl⟩
  obtain ⟨a2, ha2⟩ : ∃ a2, a2 = tN p := ⟨_, rfl⟩
  obtain ⟨a3, ha3⟩ : ∃ a3, a3 = tS p := ⟨_, rfl⟩
  obtain ⟨q, hq⟩ : ∃ q, q = numOk p.1 p.2 := ⟨_, rfl⟩
  rw [← ha1, ← ha2, ← ha3, ← hq] at HC
  rw [← ha1, ← ha2, ← ha3, ← hq] at HV
  clear hx hy fx fy hp ha1 ha2 ha3 hq
  go_in
  go_upto_region 1 with fail
  generalize (((w.alloc _).alloc _).alloc _) = W1 at *
  obtain ⟨_, x0, x1, x2, x3⟩ := HT.out.x
  obtain ⟨_, y0, y1, y2, y3⟩ := HT.out.y
  go_wp2_with fail
  refine (HC.out _ HT.out.bl).mono ?_
  rintro e w2 ⟨rfl, hb2⟩
  have HT2 := hid (HT.out.below hb2)
  have hw := HT2.out.bl
  clear hb2 HT HC x0 x1 x2 x3 y0 y1 y2 y3
  obtain ⟨⟨r0, r1, r2, r3, r4⟩, f0, f1, f2, f3⟩ := id HT2.out.r
  go_wp2
  refine bodyPost_ret (v := .tuple #[.agg #[.int .i64 a1, .slice none 0 0, .int .i64 a2, .int .i64 a3], .bool q]) (by simp [results, Try.results59, go_sem, *]) rfl ⟨tB0 a1 a2 a3, by rw [E.out, HV.out.2]; rfl, by rw [E.out]; exact HV.out.1, ?_⟩
  repeat (first | with_reducible exact hw | with_reducible refine bl_set ?_ (by dsimp only; omega) _)
set_option maxHeartbeats 2000000 in
theorem ofTwo_1 (x y : TB) (w : World) (hx : BsF 0 w x.sl) (hy : BsF 0 w y.sl) (fx : x.t.fits) (fy : y.t.fits) : Calls Try.prog 59 #[.int .i64 1, .agg #[.int .i64 x.t.k, .slice x.t.a x.t.len x.t.cap, .int .i64 x.t.n, .int .i64 x.t.s], .agg #[.int .i64 y.t.k, .slice y.t.a y.t.len y.t.cap, .int .i64 y.t.n, .int .i64 y.t.s]] w (ValR w (twoV 1 x.td y.td) w) := by
  have HT := hid (T2.new w x y 24)
  have HC : Hid (∀ W, Below w.heap.size w W → Calls Try.prog 72 #[.int .i64 1, .agg #[.int .i64 x.t.k, .slice x.t.a x.t.len x.t.cap, .int .i64 x.t.n, .int .i64 x.t.s], .agg #[.int .i64 y.t.k, .slice y.t.a y.t.len y.t.cap, .int .i64 y.t.n, .int .i64 y.t.s]] W fun e w' => e = .returned (resV (calcQ 1 x.t.k x.b x.t.n x.t.s y.t.k y.b y.t.n y.t.s)) ∧ Below W.heap.size W w') := fun W hb => implCalc_any 1 x.t.k x.t.n x.t.s y.t.k y.t.n y.t.s x.t.a y.t.a x.t.len x.t.cap y.t.len y.t.cap x.b y.b W (hx.upper (Upper.of_below hb)).1 (hy.upper (Upper.of_below hb)).1 fx.1 fx.2.1 fx.2.2.1 fx.2.2.2 fy.1 fy.2.1 fy.2.2.1 fy.2.2.2
  have E : Hid (twoV 1 x.td y.td = calcT (calcQ 1 x.t.k x.b x.t.n x.t.s y.t.k y.b y.t.n y.t.s)) := (show (if (1 : Int) ≤ 3 then _ else _) = _ by rw [if_pos (by decide)]; rfl)
  obtain ⟨p, hp⟩ : ∃ p, p = calcQ 1 x.t.k x.b x.t.n x.t.s y.t.k y.b y.t.n y.t.s := ⟨_, rfl⟩
  rw [← hp] at HC E
  have HV := hid (calcT_vt w p)
  unfold resV at HC
  obtain ⟨a1, ha1⟩ : ∃ a1, a1 = tK p := ⟨_, rfl⟩
  obtain ⟨a2, ha2⟩ : ∃ a2, a2 = tN p := ⟨_, rfl⟩
  obtain ⟨a3, ha3⟩ : ∃ a3, a3 = tS p := ⟨_, rfl⟩
  obtain ⟨q, hq⟩ : ∃ q, q = numOk p.1 p.2 := ⟨_, rfl⟩
  rw [← ha1, ← ha2, ← ha3, ← hq] at HC
  rw [← ha1, ← ha2, ← ha3, ← hq] at HV
  clear hx hy fx fy hp ha1 ha2 ha3 hq
  go_in
  go_upto_region 1 with fail
  generalize (((w.alloc _).alloc _).alloc _) = W1 at *
  obtain ⟨_, x0, x1, x2, x3⟩ := HT.out.x
  obtain ⟨_, y0, y1, y2, y3⟩ := HT.out.y
  go_wp2_with fail
  refine (HC.out _ HT.out.bl).mono ?_
  rintro e w2 ⟨rfl, hb2⟩
  have HT2 := hid (HT.out.below hb2)
  have hw := HT2.out.bl
  clear hb2 HT HC x0 x1 x2 x3 y0 y1 y2 y3
  obtain ⟨⟨r0, r1, r2, r3, r4⟩, f0, f1, f2, f3⟩ := id HT2.out.r
  go_wp2
  refine bodyPost_ret (v := .tuple #[.agg #[.int .i64 a1, .slice none 0 0, .int .i64 a2, .int .i64 a3], .bool q]) (by simp [results, Try.results59, go_sem, *]) rfl ⟨tB0 a1 a2 a3, by rw [E.out, HV.out.2]; rfl, by rw [E.out]; exact HV.out.1, ?_⟩
  repeat (first | with_reducible exact hw | with_reducible refine bl_set ?_ (by dsimp only; omega) _)
set_option maxHeartbeats 2000000 in
theorem ofTwo_2 (x y : TB) (w : World) (hx : BsF 0 w x.sl) (hy : BsF 0 w y.sl) (fx : x.t.fits) (fy : y.t.fits) : Calls Try.prog 59 #[.int .i64 2, .agg #[.int .i64 x.t.k, .slice x.t.a x.t.len x.t.cap, .int .i64 x.t.n, .int .i64 x.t.s], .agg #[.int .i64 y.t.k, .slice y.t.a y.t.len y.t.cap, .int .i64 y.t.n, .int .i64 y.t.s]] w (ValR w (twoV 2 x.td y.td) w) := by
  have HT := hid (T2.new w x y 24)
  have HC : Hid (∀ W, Below w.heap.size w W → Calls Try.prog 72 #[.int .i64 2, .agg #[.int .i64 x.t.k, .slice x.t.a x.t.len x.t.cap, .int .i64 x.t.n, .int .i64 x.t.s], .agg #[.int .i64 y.t.k, .slice y.t.a y.t.len y.t.cap, .int .i64 y.t.n, .int .i64 y.t.s]] W fun e w' => e = .returned (resV (calcQ 2 x.t.k x.b x.t.n x.t.s y.t.k y.b y.t.n y.t.s)) ∧ Below W.heap.size W w') := fun W hb => implCalc_any 2 x.t.k x.t.n x.t.s y.t.k y.t.n y.t.s x.t.a y.t.a x.t.len x.t.cap y.t.len y.t.cap x.b y.b W (hx.upper (Upper.of_below hb)).1 (hy.upper (Upper.of_below hb)).1 fx.1 fx.2.1 fx.2.2.1 fx.2.2.2 fy.1 fy.2.1 fy.2.2.1 fy.2.2.2
  have E : Hid (twoV 2 x.td y.td = calcT (calcQ 2 x.t.k x.b x.t.n x.t.s y.t.k y.b y.t.n y.t.s)) := (show (if (2 : Int) ≤ 3 then _ else _) = _ by rw [if_pos (by decide)]; rfl)
  obtain ⟨p, hp⟩ : ∃ p, p = calcQ 2 x.t.k x.b x.t.n x.t.s y.t.k y.b y.t.n y.t.s := ⟨_, rfl⟩
  rw [← hp] at HC E
  have HV := hid (calcT_vt w p)
  unfold resV at HC
  obtain ⟨a1, ha1⟩ : ∃ a1, a1 = tK p := ⟨_, rfl⟩
  obtain ⟨a2, ha2⟩ : ∃ a2, a2 = tN p := ⟨_, rfl⟩
  obtain ⟨a3, ha3⟩ : ∃ a3, a3 = tS p := ⟨_, rfl⟩
  obtain ⟨q, hq⟩ : ∃ q, q = numOk p.1 p.2 := ⟨_, rfl⟩
  rw [← ha1, ← ha2, ← ha3, ← hq] at HC
  rw [← ha1, ← ha2, ← ha3, ← hq] at HV
  clear hx hy fx fy hp ha1 ha2 ha3 hq
  go_in
  go_upto_region 1 with fail
  generalize (((w.alloc _).alloc _).alloc _) = W1 at *
  obtain ⟨_, x0, x1, x2, x3⟩ := HT.out.x
  obtain ⟨_, y0, y1, y2, y3⟩ := HT.out.y
  go_wp2_with fail
  refine (HC.out _ HT.out.bl).mono ?_
  rintro e w2 ⟨rfl, hb2⟩
  have HT2 := hid (HT.out.below hb2)
  have hw := HT2.out.bl
  clear hb2 HT HC x0 x1 x2 x3 y0 y1 y2 y3
  obtain ⟨⟨r0, r1, r2, r3, r4⟩, f0, f1, f2, f3⟩ := id HT2.out.r
  go_wp2
  refine bodyPost_ret (v := .tuple #[.agg #[.int .i64 a1, .slice none 0 0, .int .i64 a2, .int .i64 a3], .bool q]) (by simp [results, Try.results59, go_sem, *]) rfl ⟨tB0 a1 a2 a3, by rw [E.out, HV.out.2]; rfl, by rw [E.out]; exact HV.out.1, ?_⟩
  repeat (first | with_reducible exact hw | with_reducible refine bl_set ?_ (by dsimp only; omega) _)
set_option maxHeartbeats 2000000 in
theorem ofTwo_3 (x y : TB) (w : World) (hx : BsF 0 w x.sl) (hy : BsF 0 w y.sl) (fx : x.t.fits) (fy : y.t.fits) : Calls Try.prog 59 #[.int .i64 3, .agg #[.int .i64 x.t.k, .slice x.t.a x.t.len x.t.cap, .int .i64 x.t.n, .int .i64 x.t.s], .agg #[.int .i64 y.t.k, .slice y.t.a y.t.len y.t.cap, .int .i64 y.t.n, .int .i64 y.t.s]] w (ValR w (twoV 3 x.td y.td) w) := by
  have HT := hid (T2.new w x y 24)
  have HC : Hid (∀ W, Below w.heap.size w W → Calls Try.prog 72 #[.int .i64 3, .agg #[.int .i64 x.t.k, .slice x.t.a x.t.len x.t.cap, .int .i64 x.t.n, .int .i64 x.t.s], .agg #[.int .i64 y.t.k, .slice y.t.a y.t.len y.t.cap, .int .i64 y.t.n, .int .i64 y.t.s]] W fun e w' => e = .returned (resV (calcQ 3 x.t.k x.b x.t.n x.t.s y.t.k y.b y.t.n y.t.s)) ∧ Below W.heap.size W w') := fun W hb => implCalc_any 3 x.t.k x.t.n x.t.s y.t.k y.t.n y.t.s x.t.a y.t.a x.t.len x.t.cap y.t.len y.t.cap x.b y.b W (hx.upper (Upper.of_below hb)).1 (hy.upper (Upper.of_below hb)).1 fx.1 fx.2.1 fx.2.2.1 fx.2.2.2 fy.1 fy.2.1 fy.2.2.1 fy.2.2.2
  have E : Hid (twoV 3 x.td y.td = calcT (calcQ 3 x.t.k x.b x.t.n x.t.s y.t.k y.b y.t.n y.t.s)) := (show (if (3 : Int) ≤ 3 then _ else _) = _ by rw [if_pos (by decide)]; rfl)
  obtain ⟨p, hp⟩ : ∃ p, p = calcQ 3 x.t.k x.b x.t.n x.t.s y.t.k y.b y.t.n y.t.s := ⟨_, rfl⟩
  rw [← hp] at HC E
  have HV := hid (calcT_vt w p)
  unfold resV at HC
  obtain ⟨a1, ha1⟩ : ∃ a1, a1 = tK p := ⟨_, rfl⟩
  obtain ⟨a2, ha2⟩ : ∃ a2, a2 = tN p := ⟨_, rfl⟩
  obtain ⟨a3, ha3⟩ : ∃ a3, a3 = tS p := ⟨_, rfl⟩
  obtain ⟨q, hq⟩ : ∃ q, q = numOk p.1 p.2 := ⟨_, rfl⟩
  rw [← ha1, ← ha2, ← ha3, ← hq] at HC
  rw [← ha1, ← ha2, ← ha3, ← hq] at HV
  clear hx hy fx fy hp ha1 ha2 ha3 hq
  go_in
  go_upto_region 1 with fail
  generalize (((w.alloc _).alloc _).alloc _) = W1 at *
  obtain ⟨_, x0, x1, x2, x3⟩ := HT.out.x
  obtain ⟨_, y0, y1, y2, y3⟩ := HT.out.y
  go_wp2_with fail
  refine (HC.out _ HT.out.bl).mono ?_
  rintro e w2 ⟨rfl, hb2⟩
  have HT2 := hid (HT.out.below hb2)
  have hw := HT2.out.bl
  clear hb2 HT HC x0 x1 x2 x3 y0 y1 y2 y3
  obtain ⟨⟨r0, r1, r2, r3, r4⟩, f0, f1, f2, f3⟩ := id HT2.out.r
  go_wp2
  refine bodyPost_ret (v := .tuple #[.agg #[.int .i64 a1, .slice none 0 0, .int .i64 a2, .int .i64 a3], .bool q]) (by simp [results, Try.results59, go_sem, *]) rfl ⟨tB0 a1 a2 a3, by rw [E.out, HV.out.2]; rfl, by rw [E.out]; exact HV.out.1, ?_⟩
  repeat (first | with_reducible exact hw | with_reducible refine bl_set ?_ (by dsimp only; omega) _)
set_option maxHeartbeats 2000000 in
theorem ofTwo_4 (x y : TB) (w : World) (hx : BsF 0 w x.sl) (hy : BsF 0 w y.sl) (fx : x.t.fits) (fy : y.t.fits) : Calls Try.prog 59 #[.int .i64 4, .agg #[.int .i64 x.t.k, .slice x.t.a x.t.len x.t.cap, .int .i64 x.t.n, .int .i64 x.t.s], .agg #[.int .i64 y.t.k, .slice y.t.a y.t.len y.t.cap, .int .i64 y.t.n, .int .i64 y.t.s]] w (ValR w (twoV 4 x.td y.td) w) := by
  have HT := hid (T2.new w x y 24)
  have HC : Hid (∀ W, Below w.heap.size w W → Calls Try.prog 73 #[.agg #[.int .i64 x.t.k, .slice x.t.a x.t.len x.t.cap, .int .i64 x.t.n, .int .i64 x.t.s], .agg #[.int .i64 y.t.k, .slice y.t.a y.t.len y.t.cap, .int .i64 y.t.n, .int .i64 y.t.s]] W (ValR W (lessV x.td y.td) W)) := fun W hb => less_any x y W (hx.upper (Upper.of_below hb)) (hy.upper (Upper.of_below hb)) fx fy
  have E : Hid (twoV 4 x.td y.td = lessV x.td y.td) := (show (if (4 : Int) ≤ 3 then _ else if (4 : Int) = 4 then _ else _) = _ by rw [if_neg (by decide), if_pos rfl])
  obtain ⟨o, ho⟩ : ∃ o, o = lessV x.td y.td := ⟨_, rfl⟩
  have HNT : Hid (∀ t W, VT W o t → VT w o t) := fun t W h => VT.move (by rw [ho]; exact lessV_bs _ _) h
  rw [← ho] at HC E
  clear hx hy fx fy ho
  go_in
  go_upto_region 1 with fail
  generalize (((w.alloc _).alloc _).alloc _) = W1 at *
  obtain ⟨_, x0, x1, x2, x3⟩ := HT.out.x
  obtain ⟨_, y0, y1, y2, y3⟩ := HT.out.y
  go_wp2_with fail
  refine (HC.out _ HT.out.bl).mono ?_
  rintro e w2 ⟨t, rfl, hV, hb2⟩
  have HT2 := hid (HT.out.below hb2)
  have HV := hid (HNT.out t _ hV)
  have hw := HT2.out.bl
  obtain ⟨q, hq⟩ : ∃ q, q = o.isSome := ⟨_, rfl⟩
  rw [← hq]
  have HQ := hid hq
  clear hb2 HT HC x0 x1 x2 x3 y0 y1 y2 y3 hV hq HNT
  obtain ⟨⟨r0, r1, r2, r3, r4⟩, f0, f1, f2, f3⟩ := id HT2.out.r
  go_wp2
  refine bodyPost_ret (v := .tuple #[.agg #[.int .i64 t.t.k, .slice t.t.a t.t.len t.t.cap, .int .i64 t.t.n, .int .i64 t.t.s], .bool q]) (by simp [results, Try.results59, go_sem, *]) rfl ⟨t, by rw [E.out, HQ.out], by rw [E.out]; exact HV.out, ?_⟩
  repeat (first | with_reducible exact hw | with_reducible refine bl_set ?_ (by dsimp only; omega) _)
set_option maxHeartbeats 2000000 in
theorem ofTwo_5 (x y : TB) (w : World) (hx : BsF 0 w x.sl) (hy : BsF 0 w y.sl) (fx : x.t.fits) (fy : y.t.fits) : Calls Try.prog 59 #[.int .i64 5, .agg #[.int .i64 x.t.k, .slice x.t.a x.t.len x.t.cap, .int .i64 x.t.n, .int .i64 x.t.s], .agg #[.int .i64 y.t.k, .slice y.t.a y.t.len y.t.cap, .int .i64 y.t.n, .int .i64 y.t.s]] w (ValR w (twoV 5 x.td y.td) w) := by
  have HT := hid (T2.new w x y 24)
  have HC : Hid (∀ W, Below w.heap.size w W → Calls Try.prog 74 #[.agg #[.int .i64 x.t.k, .slice x.t.a x.t.len x.t.cap, .int .i64 x.t.n, .int .i64 x.t.s], .agg #[.int .i64 y.t.k, .slice y.t.a y.t.len y.t.cap, .int .i64 y.t.n, .int .i64 y.t.s]] W fun e w' => e = .returned (.bool (decide (x.td.cT y.td = 0))) ∧ Below W.heap.size W w') := fun W hb => isSame_td x y W (hx.upper (Upper.of_below hb)) (hy.upper (Upper.of_below hb)) fx fy
  have E : Hid (twoV 5 x.td y.td = ans (ansB (decide (x.td.cT y.td = 0)))) := (show (if (5 : Int) ≤ 3 then _ else if (5 : Int) = 4 then _ else _) = _ by rw [if_neg (by decide), if_neg (by decide)])
  obtain ⟨b, hb⟩ : ∃ b, b = decide (x.td.cT y.td = 0) := ⟨_, rfl⟩
  rw [← hb] at HC E
  clear hx hy fx fy hb
  go_in
  go_upto_region 1 with fail
  generalize (((w.alloc _).alloc _).alloc _) = W1 at *
  obtain ⟨_, x0, x1, x2, x3⟩ := HT.out.x
  obtain ⟨_, y0, y1, y2, y3⟩ := HT.out.y
  go_wp2_with fail
  refine (HC.out _ HT.out.bl).mono ?_
  rintro e w2 ⟨rfl, hb2⟩
  have HT2 := hid (HT.out.below hb2)
  clear hb2 HT HC x0 x1 x2 x3 y0 y1 y2 y3
  have HA := hid (answer_any b w2)
  go_wp2_with fail
  refine HA.out.mono ?_
  rintro e w3 ⟨rfl, rfl⟩
  have HTT := hid (truthTerm_any (ansB b) w w3 (ansB_r _))
  go_wp2_with fail
  refine HTT.out.mono ?_
  rintro e w4 ⟨t, rfl, hV, hb4⟩
  have HT4 := hid (HT2.out.below hb4)
  have HV := hid hV
  obtain ⟨q, hq⟩ : ∃ q, q = (ans (ansB b)).isSome := ⟨_, rfl⟩
  rw [← hq]
  have HQ := hid hq
  have hw := HT4.out.bl
  clear hV hb4 hq HTT HA HT2
  obtain ⟨⟨r0, r1, r2, r3, r4⟩, f0, f1, f2, f3⟩ := id HT4.out.r
  go_wp2
  refine bodyPost_ret (v := .tuple #[.agg #[.int .i64 t.t.k, .slice t.t.a t.t.len t.t.cap, .int .i64 t.t.n, .int .i64 t.t.s], .bool q]) (by simp [results, Try.results59, go_sem, *]) rfl ⟨t, by rw [E.out, HQ.out], by rw [E.out]; exact HV.out, ?_⟩
  repeat (first | with_reducible exact hw | with_reducible refine bl_set ?_ (by dsimp only; omega) _)
theorem ofTwo_any (op : Int) (x y : TB) (w : World) (h0 : 0 ≤ op) (h5 : op ≤ 5) (hx : BsF 0 w x.sl) (hy : BsF 0 w y.sl) (fx : x.t.fits) (fy : y.t.fits) : Calls Try.prog 59 #[.int .i64 op, .agg #[.int .i64 x.t.k, .slice x.t.a x.t.len x.t.cap, .int .i64 x.t.n, .int .i64 x.t.s], .agg #[.int .i64 y.t.k, .slice y.t.a y.t.len y.t.cap, .int .i64 y.t.n, .int .i64 y.t.s]] w (ValR w (twoV op x.td y.td) w) := by
  have h : op = 0 ∨ op = 1 ∨ op = 2 ∨ op = 3 ∨ op = 4 ∨ op = 5 := by omega
  rcases h with rfl | rfl | rfl | rfl | rfl | rfl
  · exact ofTwo_0 x y w hx hy fx fy
  · exact ofTwo_1 x y w hx hy fx fy
  · exact ofTwo_2 x y w hx hy fx fy
  · exact ofTwo_3 x y w hx hy fx fy
  · exact ofTwo_4 x y w hx hy fx fy
  · exact ofTwo_5 x y w hx hy fx fy
end Go.Proofs.Ytidhcbjhggdncaa

/- TbA -/
namespace Go.Proofs.Ytidhcbjhggdncaa
open Go.RowKit Go.Deep
set_option maxRecDepth 100000

/-- A cell. -/
structure CB where
  has : Bool
  t : TB
def CB.cells (x : CB) : List Value := [.bool x.has, .int .i64 x.t.t.k, .slice x.t.t.a x.t.t.len x.t.t.cap, .int .i64 x.t.t.n, .int .i64 x.t.t.s]
def CB.lies (B : Nat) (w : World) (x : CB) : Prop := BsF B w x.t.sl ∧ x.t.t.fits
def CB.came (w : World) (x : CB) : Prop := Cm w x.t.sl ∧ x.t.t.fits
def CB.small (x : CB) : Prop := x.t.t.len ≤ 1048576
theorem CB.lies.upper {B : Nat} {w w' : World} {x : CB} (h : x.lies B w) (hu : Upper B w w') : x.lies B w' := ⟨h.1.upper hu, h.2⟩
theorem CB.lies.base {B B' : Nat} {w : World} {x : CB} (h : x.lies B w) (hB : B' ≤ B) : x.lies B' w := ⟨h.1.base hB, h.2⟩
theorem CB.came.below {w w' : World} {x : CB} (h : x.came w) (hb : Below w.heap.size w w') : x.came w' := ⟨h.1.below hb, h.2⟩
theorem CB.came.lies {w : World} {x : CB} (h : x.came w) (hs : x.small) : x.lies 0 w := ⟨h.1.bs hs, h.2⟩
/-- A solution. -/
structure SO where
  a : Option Addr
  cap : Nat
  n : Nat
  cel : Nat → CB
def SO.cells (x : SO) : List Value := [.slice x.a x.n x.cap]
def SO.lies (B : Nat) (w : World) (x : SO) : Prop := KRow B w 5 x.a x.n (fun i => (x.cel i).cells) ∧ (∀ i, i < x.n → (x.cel i).lies B w) ∧ x.n ≤ 1048576
def SO.came (w : World) (x : SO) : Prop := KRow 0 w 5 x.a x.n (fun i => (x.cel i).cells) ∧ (∀ i, i < x.n → (x.cel i).came w) ∧ x.n ≤ 9223372036854775807
def SO.small (x : SO) : Prop := x.n ≤ 1048576 ∧ ∀ i, i < x.n → (x.cel i).small
theorem SO.lies.upper {B : Nat} {w w' : World} {x : SO} (h : x.lies B w) (hu : Upper B w w') : x.lies B w' := ⟨h.1.upper hu, fun i hi => (h.2.1 i hi).upper hu, h.2.2⟩
theorem SO.lies.base {B B' : Nat} {w : World} {x : SO} (h : x.lies B w) (hB : B' ≤ B) : x.lies B' w := ⟨h.1.base hB, fun i hi => (h.2.1 i hi).base hB, h.2.2⟩
theorem SO.came.below {w w' : World} {x : SO} (h : x.came w) (hb : Below w.heap.size w w') : x.came w' := ⟨h.1.upper (Upper.of_below hb), fun i hi => (h.2.1 i hi).below hb, h.2.2⟩
theorem SO.came.lies {w : World} {x : SO} (h : x.came w) (hs : x.small) : x.lies 0 w := ⟨h.1, fun i hi => (h.2.1 i hi).lies (hs.2 i hi), hs.1⟩
/-- Texts as elements. -/
def SL.lies (B : Nat) (w : World) (x : SL) : Prop := BsF B w x
def SL.came (w : World) (x : SL) : Prop := Cm w x
def SL.small (x : SL) : Prop := x.len ≤ 1048576
def SL.cells (x : SL) : List Value := [.slice x.a x.len x.cap]
theorem SL.lies.upper {B : Nat} {w w' : World} {x : SL} (h : x.lies B w) (hu : Upper B w w') : x.lies B w' := BsF.upper h hu
theorem SL.lies.base {B B' : Nat} {w : World} {x : SL} (h : x.lies B w) (hB : B' ≤ B) : x.lies B' w := BsF.base h hB
/-- A table. -/
structure TL where
  va : Option Addr
  vc : Nat
  vn : Nat
  var : Nat → SL
  ra : Option Addr
  rc : Nat
  rn : Nat
  row : Nat → SO
def TL.cells (x : TL) : List Value := [.slice x.va x.vn x.vc, .slice x.ra x.rn x.rc]
def TL.lies (B : Nat) (w : World) (x : TL) : Prop := KRow B w 1 x.va x.vn (fun i => (x.var i).cells) ∧ (∀ i, i < x.vn → (x.var i).lies B w) ∧ x.vn ≤ 1048576 ∧ KRow B w 1 x.ra x.rn (fun i => (x.row i).cells) ∧ (∀ i, i < x.rn → (x.row i).lies B w) ∧ x.rn ≤ 1048576
def TL.came (w : World) (x : TL) : Prop := KRow 0 w 1 x.va x.vn (fun i => (x.var i).cells) ∧ (∀ i, i < x.vn → (x.var i).came w) ∧ x.vn ≤ 9223372036854775807 ∧ KRow 0 w 1 x.ra x.rn (fun i => (x.row i).cells) ∧ (∀ i, i < x.rn → (x.row i).came w) ∧ x.rn ≤ 9223372036854775807
def TL.small (x : TL) : Prop := (x.vn ≤ 1048576 ∧ ∀ i, i < x.vn → (x.var i).small) ∧ x.rn ≤ 1048576 ∧ ∀ i, i < x.rn → (x.row i).small
theorem TL.lies.upper {B : Nat} {w w' : World} {x : TL} (h : x.lies B w) (hu : Upper B w w') : x.lies B w' := ⟨h.1.upper hu, fun i hi => (h.2.1 i hi).upper hu, h.2.2.1, h.2.2.2.1.upper hu, fun i hi => (h.2.2.2.2.1 i hi).upper hu, h.2.2.2.2.2⟩
theorem TL.lies.base {B B' : Nat} {w : World} {x : TL} (h : x.lies B w) (hB : B' ≤ B) : x.lies B' w := ⟨h.1.base hB, fun i hi => (h.2.1 i hi).base hB, h.2.2.1, h.2.2.2.1.base hB, fun i hi => (h.2.2.2.2.1 i hi).base hB, h.2.2.2.2.2⟩
theorem TL.came.below {w w' : World} {x : TL} (h : x.came w) (hb : Below w.heap.size w w') : x.came w' := ⟨h.1.upper (Upper.of_below hb), fun i hi => Cm.below (h.2.1 i hi) hb, h.2.2.1, h.2.2.2.1.upper (Upper.of_below hb), fun i hi => (h.2.2.2.2.1 i hi).below hb, h.2.2.2.2.2⟩
theorem TL.came.lies {w : World} {x : TL} (h : x.came w) (hs : x.small) : x.lies 0 w := ⟨h.1, fun i hi => Cm.bs (h.2.1 i hi) (hs.1.2 i hi), hs.1.1, h.2.2.2.1, fun i hi => (h.2.2.2.2.1 i hi).lies (hs.2.2 i hi), hs.2.1⟩
end Go.Proofs.Ytidhcbjhggdncaa

/- TbB -/
namespace Go.Proofs.Ytidhcbjhggdncaa
open Go.RowKit Go.Deep
set_option maxRecDepth 100000

/-- A text that may be written, in a block from B on. -/
def TxW (B : Nat) (w : World) (x : SL) : Prop := x.len = 0 ∨ ∃ g, x.a = some ⟨g, 0, none⟩ ∧ B ≤ g ∧ g < w.heap.size ∧ ∀ i, i < x.len → w.frozen? ⟨g, i, none⟩ = false
theorem TxW.upper {B : Nat} {w w' : World} {x : SL} (h : TxW B w x) (hu : Upper B w w') : TxW B w' x := by
  rcases h with h | ⟨g, ha, hB, hlt, hf⟩
  · exact .inl h
  · exact .inr ⟨g, ha, hB, Nat.lt_of_lt_of_le hlt hu.size, fun i hi => (World.frozen?_of_block (w := w) (a := ⟨g, i, none⟩) (hu.block g hB hlt)).trans (hf i hi)⟩
theorem TxW.base {B B' : Nat} {w : World} {x : SL} (h : TxW B w x) (hB : B' ≤ B) : TxW B' w x := by
  rcases h with h | ⟨g, ha, hb, r⟩
  · exact .inl h
  · exact .inr ⟨g, ha, Nat.le_trans hB hb, r⟩
/-- A row of m cells that may be written. -/
def FrW (B : Nat) (w : World) (g m : Nat) : Prop := m = 0 ∨ B ≤ g ∧ g < w.heap.size ∧ ∀ j, j < m → w.frozen? ⟨g, j, none⟩ = false
theorem FrW.upper {B : Nat} {w w' : World} {g m : Nat} (h : FrW B w g m) (hu : Upper B w w') : FrW B w' g m := by
  rcases h with h | ⟨hB, hlt, hf⟩
  · exact .inl h
  · exact .inr ⟨hB, Nat.lt_of_lt_of_le hlt hu.size, fun j hj => (World.frozen?_of_block (w := w) (a := ⟨g, j, none⟩) (hu.block g hB hlt)).trans (hf j hj)⟩
theorem FrW.base {B B' : Nat} {w : World} {g m : Nat} (h : FrW B w g m) (hB : B' ≤ B) : FrW B' w g m := by
  rcases h with h | ⟨hb, r⟩
  · exact .inl h
  · exact .inr ⟨Nat.le_trans hB hb, r⟩
def SL.own (B : Nat) (w : World) (x : SL) : Prop := BsF B w x ∧ TxW B w x
def CB.own (B : Nat) (w : World) (x : CB) : Prop := x.lies B w ∧ TxW B w x.t.sl
def SO.own (B : Nat) (w : World) (x : SO) : Prop := x.lies B w ∧ (∀ i, i < x.n → TxW B w (x.cel i).t.sl) ∧ ∃ g, x.a = some ⟨g, 0, none⟩ ∧ FrW B w g (x.n * 5)
def TL.own (B : Nat) (w : World) (x : TL) : Prop := x.lies B w ∧ (∀ i, i < x.vn → (x.var i).own B w) ∧ (∀ i, i < x.rn → (x.row i).own B w) ∧ (∃ g, x.va = some ⟨g, 0, none⟩) ∧ ∃ g, x.ra = some ⟨g, 0, none⟩
theorem SL.own.upper {B : Nat} {w w' : World} {x : SL} (h : x.own B w) (hu : Upper B w w') : x.own B w' := ⟨h.1.upper hu, h.2.upper hu⟩
theorem SL.own.base {B B' : Nat} {w : World} {x : SL} (h : x.own B w) (hB : B' ≤ B) : x.own B' w := ⟨h.1.base hB, h.2.base hB⟩
theorem CB.own.upper {B : Nat} {w w' : World} {x : CB} (h : x.own B w) (hu : Upper B w w') : x.own B w' := ⟨h.1.upper hu, h.2.upper hu⟩
theorem CB.own.base {B B' : Nat} {w : World} {x : CB} (h : x.own B w) (hB : B' ≤ B) : x.own B' w := ⟨h.1.base hB, h.2.base hB⟩
theorem SO.own.upper {B : Nat} {w w' : World} {x : SO} (h : x.own B w) (hu : Upper B w w') : x.own B w' := ⟨h.1.upper hu, fun i hi => (h.2.1 i hi).upper hu, h.2.2.imp fun _ hg => ⟨hg.1, hg.2.upper hu⟩⟩
theorem SO.own.base {B B' : Nat} {w : World} {x : SO} (h : x.own B w) (hB : B' ≤ B) : x.own B' w := ⟨h.1.base hB, fun i hi => (h.2.1 i hi).base hB, h.2.2.imp fun _ hg => ⟨hg.1, hg.2.base hB⟩⟩
end Go.Proofs.Ytidhcbjhggdncaa

/- TreG -/
namespace Go.Proofs.Ytidhcbjhggdncaa
open Go.RowKit Go.Deep
set_option maxRecDepth 100000

/-- A number in a box that may be written. -/
structure Ctr (w : World) (g : Nat) (L : Int) : Prop where
  lt : g < w.heap.size
  cell : w.cell? ⟨g, 0, none⟩ = some (.int .i64 L)
  fr : w.frozen? ⟨g, 0, none⟩ = false
theorem Ctr.below {w w' : World} {g : Nat} {L : Int} (h : Ctr w g L) (hb : Below w.heap.size w w') : Ctr w' g L := ⟨Nat.lt_of_lt_of_le h.lt hb.size, (hb.cell (p := ⟨g, 0, none⟩) h.lt).trans h.cell, (hb.frozen (p := ⟨g, 0, none⟩) h.lt).trans h.fr⟩
theorem Ctr.set {w : World} {g : Nat} {L : Int} (h : Ctr w g L) (L' : Int) : Ctr (w.setCell ⟨g, 0, none⟩ (.int .i64 L')) g L' := ⟨by simpa using h.lt, set_same h.cell, by rw [World.frozen?_setCell]; exact h.fr⟩
/-- What a function answers that counts parts off a number. -/
def CtrAns (P : Prop) (sz g : Nat) (L : Int) (w : World) (e : Ending) (w' : World) : Prop := ∃ (q : Bool) (L' : Int), e = .returned (.bool q) ∧ (q = true ↔ P ∧ (sz : Int) ≤ L) ∧ (q = true → L' = L - sz) ∧ Ctr w' g L' ∧ Past g w w'
theorem CtrAns.no {P : Prop} {sz g : Nat} {L L' : Int} {w w' : World} (h : ¬ (P ∧ (sz : Int) ≤ L)) (hc : Ctr w' g L') (hp : Past g w w') : CtrAns P sz g L w (.returned (.bool false)) w' := ⟨false, L', rfl, ⟨fun e => (by cases e), fun hh => absurd hh h⟩, fun e => (by cases e), hc, hp⟩
theorem CtrAns.yes {P : Prop} {sz g : Nat} {L L' : Int} {w w' : World} (h : P) (hs : (sz : Int) ≤ L) (hL : L' = L - sz) (hc : Ctr w' g L') (hp : Past g w w') : CtrAns P sz g L w (.returned (.bool true)) w' := ⟨true, L', rfl, ⟨fun _ => ⟨h, hs⟩, fun _ => rfl⟩, fun _ => hL, hc, hp⟩
theorem Box.past {g : Nat} {w w' : World} {b : Nat} {L : List Value} (h : Box w b L) (hp : Past g w w') (hne : b ≠ g) : Box w' b L := ⟨Nat.lt_of_lt_of_le h.1 hp.size, fun c u hc => (hp.cell (p := ⟨b, c, none⟩) h.1 hne).trans (h.2 c u hc)⟩
/-- Within a function that counts: its argument in a box, the number, what was there before. -/
structure CS (w0 w W : World) (g : Nat) (L : Int) (cs : List Value) : Prop where
  bx : Box W w.heap.size cs
  ct : Ctr W g L
  pa : Past g w W
  bl : Below w0.heap.size w0 W
theorem CS.below {w0 w W W' : World} {g : Nat} {L : Int} {cs : List Value} (h : CS w0 w W g L cs) (hw : w0.heap.size ≤ W.heap.size) (hb : Below W.heap.size W W') : CS w0 w W' g L cs := ⟨h.bx.below hb, h.ct.below hb, h.pa.trans (Past.of_below hb), h.bl.trans (hb.mono hw)⟩
theorem CS.past {w0 w W W' : World} {g : Nat} {L L' : Int} {cs : List Value} (h : CS w0 w W g L cs) (hg : w0.heap.size ≤ g) (hgw : g < w.heap.size) (hp : Past g W W') (hc : Ctr W' g L') : CS w0 w W' g L' cs := ⟨h.bx.past hp (by omega), hc, h.pa.trans hp, h.bl.trans (hp.below hg (by have := h.bl.size; omega))⟩
theorem CS.new {w0 w : World} {g : Nat} {L : Int} (hb : Below w0.heap.size w0 w) (hg : w0.heap.size ≤ g) (hc : Ctr w g L) (cs : Array Value) (t : TypeId) (L' : Int) : CS w0 w ((w.setCell ⟨g, 0, none⟩ (.int .i64 L')).alloc (.cells cs t)) g L' cs.toList := by
  have h1 : Past g w (w.setCell ⟨g, 0, none⟩ (.int .i64 L')) := (Past.refl g w).set 0 _
  have h2 : Past g w ((w.setCell ⟨g, 0, none⟩ (.int .i64 L')).alloc (.cells cs t)) := h1.trans (Past.of_below (bl_a _))
  have h3 := Box.new (w.setCell ⟨g, 0, none⟩ (.int .i64 L')) cs t (0, 0)
  have e : (w.setCell ⟨g, 0, none⟩ (.int .i64 L')).heap.size = w.heap.size := by simp
  rw [e] at h3
  exact ⟨h3, (hc.set L').below (bl_a _), h2, hb.trans (h2.below hg (by have := hb.size; omega))⟩
theorem eOk_no {lim deep : Int} {d : EN} {kid : Nat → ET} {L : Int} {s : Nat} (h : ¬ nodeOk d) : ¬ (eOk lim (.mk d kid) deep ∧ (s : Int) ≤ L) := fun hh => h hh.1.2.1
end Go.Proofs.Ytidhcbjhggdncaa

/- TreH -/
namespace Go.Proofs.Ytidhcbjhggdncaa
open Go.RowKit Go.Deep
set_option maxRecDepth 100000

/-- The expression 1, again and again, in a row of the call's own. -/
def e1c : List Value := [.int .i64 1, .int .i64 0, .slice none 0 0, .int .i64 3, .slice none 0 0, .int .i64 1, .int .i64 0, .slice none 0 0]
def repE (k : Nat) : List Value := (List.replicate k ()).flatMap fun _ => e1c
def OwnC (w : World) (B : Nat) (v : Value) (k : Nat) : Prop := w.ownsRow B 29 8 v k (repE k) ∧ ∀ g, v.ownBlock = some g → B ≤ g ∧ g < w.heap.size
theorem OwnC.nil (w : World) (B : Nat) : OwnC w B (.slice none 0 0) 0 := ⟨World.ownsRow_nil _ _ _ _, fun g h => by cases h⟩
theorem OwnC.below {w w' : World} {B : Nat} {v : Value} {k : Nat} (h : OwnC w B v k) (hb : Below w.heap.size w w') : OwnC w' B v k := by
  obtain ⟨⟨h1, h2⟩, hl⟩ := h
  refine ⟨⟨h1, ?_⟩, fun c hc => ⟨(hl c hc).1, Nat.lt_of_lt_of_le (hl c hc).2 hb.size⟩⟩
  rcases h2 with h2 | ⟨g', cap', cur, hv, hB, hh, r⟩
  · exact .inl h2
  · refine .inr ⟨g', cap', cur, hv, hB, ?_, r⟩
    rw [hb.block g' (hl g' (by rw [hv]; rfl)).2]
    exact hh
theorem OwnC.but {w w' : World} {B g : Nat} {v : Value} {k : Nat} (h : OwnC w B v k) (hb : But g w w') (hg : g < B) : OwnC w' B v k := by
  obtain ⟨⟨h1, h2⟩, hl⟩ := h
  refine ⟨⟨h1, ?_⟩, fun c hc => ⟨(hl c hc).1, by rw [hb.size]; exact (hl c hc).2⟩⟩
  rcases h2 with h2 | ⟨g', cap', cur, hv, hB, hh, r⟩
  · exact .inl h2
  · refine .inr ⟨g', cap', cur, hv, hB, ?_, r⟩
    rw [hb.block g' (by omega)]
    exact hh
theorem CS.low {w0 w W W' : World} {g fb : Nat} {L : Int} {cs : List Value} (h : CS w0 w W g L cs) (hw : w0.heap.size ≤ w.heap.size) (hgw : g < w.heap.size) (hf : w.heap.size < fb) (hb : Below fb W W') : CS w0 w W' g L cs :=
  ⟨⟨Nat.lt_of_lt_of_le h.bx.1 hb.size, fun c u hu => (hb.cell (p := ⟨w.heap.size, c, none⟩) hf).trans (h.bx.2 c u hu)⟩, ⟨Nat.lt_of_lt_of_le h.ct.lt hb.size, (hb.cell (p := ⟨g, 0, none⟩) (by show g < fb; omega)).trans h.ct.cell, (hb.frozen (p := ⟨g, 0, none⟩) (by show g < fb; omega)).trans h.ct.fr⟩, ⟨hb.os.trans h.pa.os, hb.tape.trans h.pa.tape, hb.output.trans h.pa.output, Nat.le_trans h.pa.size hb.size, fun b h1 h2 => (hb.block b (by omega)).trans (h.pa.block b h1 h2)⟩, h.bl.trans (hb.mono (by omega))⟩
/-- The expression 1. -/
def one : ET := .mk ⟨1, 0, ⟨none, 0, 0, []⟩, ⟨⟨3, none, 0, 0, 1, 0⟩, []⟩, none, 0, 0⟩ (fun _ => .nil)
theorem bs_nil (w : World) : BsF 0 w ⟨none, 0, 0, []⟩ := ⟨⟨rfl, Nat.zero_le _, fun i => by simp, .inl rfl⟩, .inl rfl⟩
end Go.Proofs.Ytidhcbjhggdncaa

/- TreK -/
namespace Go.Proofs.Ytidhcbjhggdncaa
open Go.RowKit Go.Deep
set_option maxRecDepth 100000

def SL.v (x : SL) : Value := .slice x.a x.len x.cap
/-- A list of texts of the call's own: the texts themselves lie in the world w0. -/
structure VL (w0 w : World) (B : Nat) (v : Value) (L : List SL) : Prop where
  own : w.ownsRow B 22 1 v L.length (L.map SL.v)
  lo : ∀ g, v.ownBlock = some g → B ≤ g ∧ g < w.heap.size
  txt : ∀ x ∈ L, BsF 0 w0 x
theorem VL.nil (w0 w : World) (B : Nat) : VL w0 w B (.slice none 0 0) [] := ⟨World.ownsRow_nil _ _ _ _, fun g h => (by cases h), fun x hx => (by cases hx)⟩
theorem VL.keep {w0 w w' : World} {B : Nat} {v : Value} {L : List SL} (h : VL w0 w B v L) (hs : w.heap.size ≤ w'.heap.size) (hb : ∀ g, v.ownBlock = some g → w'.heap[g]? = w.heap[g]?) : VL w0 w' B v L := by
  obtain ⟨⟨h1, h2⟩, hl, ht⟩ := h
  refine ⟨⟨h1, ?_⟩, fun c hc => ⟨(hl c hc).1, Nat.lt_of_lt_of_le (hl c hc).2 hs⟩, ht⟩
  rcases h2 with h2 | ⟨g', cap', cur, hv, hB, hh, r⟩
  · exact .inl h2
  · refine .inr ⟨g', cap', cur, hv, hB, ?_, r⟩
    rw [hb g' (by rw [hv]; rfl)]
    exact hh
theorem VL.below {w0 w w' : World} {B : Nat} {v : Value} {L : List SL} (h : VL w0 w B v L) (hb : Below w.heap.size w w') : VL w0 w' B v L := h.keep hb.size fun g hg => hb.block g (h.lo g hg).2
theorem VL.form {w0 w : World} {B : Nat} {v : Value} {L : List SL} (h : VL w0 w B v L) : ∃ a cap, v = .slice a L.length cap ∧ (L = [] ∨ ∃ g, a = some ⟨g, 0, none⟩ ∧ B ≤ g ∧ g < w.heap.size ∧ ∀ i x, L[i]? = some x → w.cell? ⟨g, i, none⟩ = some (.slice x.a x.len x.cap)) := by
  rcases h.own.2 with ⟨hv, h0⟩ | ⟨g, cap, cur, hv, hB, hh, hle, _, hsz, htk⟩
  · have := List.eq_nil_of_length_eq_zero h0
    subst this
    exact ⟨none, 0, hv, .inl rfl⟩
  · refine ⟨some ⟨g, 0, none⟩, cap, hv, .inr ⟨g, rfl, hB, (h.lo g (by rw [hv]; rfl)).2, fun i x hx => ?_⟩⟩
    have hi := (List.getElem?_eq_some_iff.1 hx).1
    have hu : (L.map SL.v)[i]? = some (.slice x.a x.len x.cap) := by rw [List.getElem?_map, hx]; rfl
    rw [← htk, List.getElem?_take, if_pos (by omega)] at hu
    simp only [World.cell?, hh]
    simpa using hu
def InL (b : List Int) (L : List SL) : Prop := b ∈ L.map SL.b
def addV (l : List (List Int)) (v : List Int) : List (List Int) := if v = [] ∨ v ∈ l then l else l ++ [v]
theorem addV_len (l : List (List Int)) (v : List Int) : (addV l v).length ≤ l.length + 1 := by
  unfold addV
  split <;> simp
/-- What adding to a list leaves: all blocks but the list's own; the new list's block is the elder one, or new. -/
structure Kp (v : Value) (w : World) (v' : Value) (w' : World) : Prop where
  os : w'.os = w.os
  tape : w'.tape = w.tape
  output : w'.output = w.output
  size : w.heap.size ≤ w'.heap.size
  block : ∀ b, b < w.heap.size → v.ownBlock ≠ some b → w'.heap[b]? = w.heap[b]?
  blk : ∀ g, v'.ownBlock = some g → v.ownBlock = some g ∨ w.heap.size ≤ g
theorem Kp.of_below {v : Value} {w w' : World} (h : Below w.heap.size w w') : Kp v w v w' := ⟨h.os, h.tape, h.output, h.size, fun b hb _ => h.block b hb, fun _ hg => .inl hg⟩
theorem Kp.trans {v v' v'' : Value} {w w' w'' : World} (h : Kp v w v' w') (k : Kp v' w' v'' w'') : Kp v w v'' w'' :=
  ⟨k.os.trans h.os, k.tape.trans h.tape, k.output.trans h.output, Nat.le_trans h.size k.size, fun b hb hn => (k.block b (Nat.lt_of_lt_of_le hb h.size) (fun e => by
    rcases h.blk b e with e' | e'
    · exact hn e'
    · omega)).trans (h.block b hb hn), fun g hg => by
    rcases k.blk g hg with e | e
    · exact h.blk g e
    · exact .inr (Nat.le_trans h.size e)⟩
theorem Kp.box {v v' : Value} {w w' : World} {b : Nat} {L : List Value} (h : Kp v w v' w') (hx : Box w b L) (hn : v.ownBlock ≠ some b) : Box w' b L := ⟨Nat.lt_of_lt_of_le hx.1 h.size, fun c u hu => (World.cell?_of_block (w := w) (a := ⟨b, c, none⟩) (h.block b hx.1 hn)).trans (hx.2 c u hu)⟩
theorem Kp.low {v v' : Value} {w w' : World} {B : Nat} (h : Kp v w v' w') (hv : ∀ g, v.ownBlock = some g → B ≤ g) (hB : B ≤ w.heap.size) : Below B w w' := ⟨h.os, h.tape, h.output, h.size, fun b hb => h.block b (by omega) (fun e => by have := hv b e; omega)⟩
theorem str_ne {a b : List Int} (ha : Byt a) (hb : Byt b) (h : a ≠ b) : strOfNums a ≠ strOfNums b := fun e => h (by rw [← numsOf_nums ha, ← numsOf_nums hb, e])
theorem str_ne2 {a b : List Int} (ha : Byt a) (hb : Byt b) (h : a ≠ b) : (strOfNums a).toList ≠ (strOfNums b).toList := fun e => h (by
  rw [Lib.strOfNums_toList, Lib.strOfNums_toList] at e
  rw [← numsOf_nums ha, ← numsOf_nums hb]
  show (a.map fun n => UInt8.ofNat n.toNat).map _ = (b.map fun n => UInt8.ofNat n.toNat).map _
  exact congrArg _ e)
theorem Try.infoB22 : (Try.prog.info? 22).map (fun i => (i.zero, i.size, i.bytes)) = some (some (.slice none 0 0), 1, 24) := by kernel_rfl
end Go.Proofs.Ytidhcbjhggdncaa

/- TbE -/
namespace Go.Proofs.Ytidhcbjhggdncaa
open Go.RowKit Go.Deep
set_option maxRecDepth 100000

/-- What a cell must be. -/
def cellOk (x : CB) : Prop := (x.has = true → x.t.td.ok = true) ∧ (x.has = false → zeroT x.t.td)
def solOk (s : SO) (n : Nat) : Prop := s.n = n ∧ ∀ i, i < s.n → cellOk (s.cel i)
def varOk (var : Nat → SL) (i : Nat) : Prop := nameOk (var i).b = true ∧ ∀ j, j < i → (var j).b ≠ (var i).b
def varsOkL (n : Nat) (var : Nat → SL) : Prop := n ≤ 8 ∧ ∀ i, i < n → varOk var i
end Go.Proofs.Ytidhcbjhggdncaa

/- TreL -/
namespace Go.Proofs.Ytidhcbjhggdncaa
open Go.RowKit Go.Deep
set_option maxRecDepth 100000

def foldN {α : Type} : Nat → (Nat → α → α) → α → α
  | 0, _, a => a
  | n + 1, f, a => f n (foldN n f a)
def eV : ET → List (List Int) → List (List Int)
  | .nil, l => l
  | .mk d kid, l => foldN d.n (fun i acc => eV (kid i) acc) (addV l d.v.b)
theorem foldN_len {n : Nat} {f : Nat → List (List Int) → List (List Int)} {c : Nat → Nat} (h : ∀ i l, i < n → (f i l).length ≤ l.length + c i) (l : List (List Int)) : (foldN n f l).length ≤ l.length + sumN n c := by
  induction n with
  | zero => exact Nat.le_refl _
  | succ n ih =>
    have h1 := ih (fun i l hi => h i l (by omega))
    have h2 := h n (foldN n f l) (by omega)
    show (f n (foldN n f l)).length ≤ l.length + (sumN n c + c n)
    omega
theorem eV_len (e : ET) : ∀ l, (eV e l).length ≤ l.length + esz e := by
  induction e with
  | nil => exact fun l => Nat.le_refl _
  | mk d kid ih =>
    intro l
    have h1 := addV_len l d.v.b
    have h2 := foldN_len (f := fun i acc => eV (kid i) acc) (c := fun i => esz (kid i)) (n := d.n) (fun i l _ => ih i l) (addV l d.v.b)
    show (foldN d.n (fun i acc => eV (kid i) acc) (addV l d.v.b)).length ≤ l.length + (1 + sumN d.n (fun i => esz (kid i)))
    omega
theorem VL.ne {w0 w : World} {B : Nat} {v : Value} {L : List SL} (h : VL w0 w B v L) : v.ownBlock ≠ some w.heap.size := fun e => by have := (h.lo _ e).2; omega
theorem Kp.ne {v v' : Value} {w W wr : World} {o : Obj} (h : Kp v W v' wr) (hW : W = w.alloc o) (hv : v.ownBlock ≠ some w.heap.size) : v'.ownBlock ≠ some w.heap.size := fun e => by
  rcases h.blk _ e with e' | e'
  · exact hv e'
  · rw [hW] at e'
    have : (w.alloc o).heap.size = w.heap.size + 1 := by simp
    omega
end Go.Proofs.Ytidhcbjhggdncaa

/- TreM -/
namespace Go.Proofs.Ytidhcbjhggdncaa
open Go.RowKit Go.Deep
set_option maxRecDepth 100000

/-- A list that is being made: what is known of it within a function whose argument lies in a box. -/
structure LS (w0 w W : World) (B : Nat) (v0 v : Value) (L : List SL) (cs : List Value) (W' : World) : Prop where
  vl : VL w0 W' B v L
  kp : Kp v0 W v W'
  bx : Box W' w.heap.size cs
  bl : Below w0.heap.size w0 W'
  lo : B ≤ W'.heap.size
  ne : v.ownBlock ≠ some w.heap.size
theorem LS.step {w0 w W : World} {B : Nat} {v0 v v' : Value} {L L' : List SL} {cs : List Value} {W' W'' : World} {o : Obj} (h : LS w0 w W B v0 v L cs W') (hW : W = w.alloc o) (hv0 : v0.ownBlock ≠ some w.heap.size) (hwB : w0.heap.size ≤ B) (hV : VL w0 W'' B v' L') (hK : Kp v W' v' W'') : LS w0 w W B v0 v' L' cs W'' :=
  ⟨hV, h.kp.trans hK, hK.box h.bx h.ne, h.bl.trans ((hK.low (fun g hg => (h.vl.lo g hg).1) h.lo).mono hwB), Nat.le_trans h.lo hK.size, (h.kp.trans hK).ne hW hv0⟩
theorem LS.below {w0 w W : World} {B : Nat} {v0 v : Value} {L : List SL} {cs : List Value} {W' W'' : World} (h : LS w0 w W B v0 v L cs W') (hb : Below W'.heap.size W' W'') : LS w0 w W B v0 v L cs W'' :=
  ⟨h.vl.below hb, h.kp.trans (Kp.of_below hb), h.bx.below hb, h.bl.trans (hb.mono h.bl.size), Nat.le_trans h.lo hb.size, h.ne⟩
end Go.Proofs.Ytidhcbjhggdncaa
