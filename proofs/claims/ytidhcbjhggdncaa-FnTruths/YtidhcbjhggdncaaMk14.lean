/- Texts put together: TvO DrwC -/
import Derived.Test.YtidhcbjhggdncaaMk13
import Derived.Test.YtidhcbjhggdncaaMk12
/- TvO -/
namespace Go.Proofs.Ytidhcbjhggdncaa
open Go.RowKit Go.Deep
set_option maxRecDepth 100000

theorem tl0 (B : Nat) (w : World) : BsF B w (tB0 0 0 0).sl ∧ (tB0 0 0 0).t.fits := ⟨⟨(VT.no (w0 := w)).bs.1, .inl rfl⟩, (VT.no (w0 := w)).ft⟩
theorem TD.ok_len {d : TD} (h : d.ok = true) : d.bs.length ≤ 30 := by
  unfold TD.ok termOk at h
  split at h
  · simp only [nameOk, Bool.and_eq_true, decide_eq_true_eq] at h
    omega
  · split at h
    · simp only [Bool.and_eq_true, beq_iff_eq] at h
      omega
    · split at h
      · simp only [textOk, Bool.and_eq_true, decide_eq_true_eq] at h
        omega
      · split at h
        · simp only [Bool.and_eq_true, beq_iff_eq] at h
          omega
        · cases h
theorem opV_bs (op : Int) (a b : Option TD) : ((opV op a b).getD zT).bs = [] := by
  unfold opV
  split
  · exact ans_bs _
  · split
    · exact ans_bs _
    · cases a with
      | none => rfl
      | some x =>
        cases b with
        | none => rfl
        | some y => exact twoV_bs _ _ _
theorem lenV_bs (a : Option TD) : ((lenV a).getD zT).bs = [] := by
  cases a with
  | none => rfl
  | some x =>
    show ((if x.k = 2 then some (⟨3, [], x.bs.length, 0⟩ : TD) else none).getD zT).bs = []
    split <;> rfl
theorem firstV_len {m n : Nat} {f : Nat → Option TD} (h : ∀ i, i < n → ((f i).getD zT).bs.length ≤ m) : ((firstV n f).getD zT).bs.length ≤ m := by
  induction n with
  | zero => exact Nat.zero_le _
  | succ n ih =>
    have h1 := ih fun i hi => h i (by omega)
    show (((firstV n f).or (f n)).getD zT).bs.length ≤ m
    cases hf : firstV n f with
    | none => exact h n (by omega)
    | some d => rw [hf] at h1; exact h1
theorem val_len {C : List Int → Option TD} (hC : ∀ b, ((C b).getD zT).bs.length ≤ 30) (e : ET) : ∀ q p : Int, eOk q e p → ((val C e).getD zT).bs.length ≤ 30 := by
  induction e with
  | nil => exact fun _ _ h => False.elim h
  | mk d kid ih =>
    intro q p hok
    obtain ⟨_, ⟨hko, _, _, ht, _, _, _⟩, hkk⟩ := hok
    have IH : ∀ i, i < d.n → ((val C (kid i)).getD zT).bs.length ≤ 30 := fun i hi => ih i q (p + 1) (hkk i hi)
    have ev : val C (.mk d kid) = (if d.k = 0 then C d.v.b else if d.k = 1 then some d.t.td else if d.k = 3 then ans (2 - tru (val C (kid 0))) else if d.k = 4 then ans (ansB (C d.v.b).isSome) else if d.k = 5 then ifV (tru (val C (kid 0))) (val C (kid 1)) (val C (kid 2)) else if d.k = 6 then firstV d.n (fun i => val C (kid i)) else if d.k = 7 then lenV (val C (kid 0)) else opV d.op (val C (kid 0)) (val C (kid 1))) := rfl
    rw [ev]
    rcases hko with ⟨h | h | h, _⟩ | ⟨h | h, hn1⟩ | ⟨h, hn2⟩ | ⟨h, hn3⟩ | ⟨h, _, _⟩
    · rw [if_pos h]
      exact hC _
    · rw [if_neg (by omega), if_pos h]
      exact TD.ok_len (ht h)
    · rw [if_neg (by omega), if_neg (by omega), if_neg (by omega), if_pos h, ans_bs]
      exact Nat.zero_le _
    · rw [if_neg (by omega), if_neg (by omega), if_pos h, ans_bs]
      exact Nat.zero_le _
    · rw [if_neg (by omega), if_neg (by omega), if_neg (by omega), if_neg (by omega), if_neg (by omega), if_neg (by omega), if_pos h, lenV_bs]
      exact Nat.zero_le _
    · rw [if_neg (by omega), if_neg (by omega), if_neg (by omega), if_neg (by omega), if_neg (by omega), if_neg (by omega), if_neg (by omega), opV_bs]
      exact Nat.zero_le _
    · rw [if_neg (by omega), if_neg (by omega), if_neg (by omega), if_neg (by omega), if_pos h]
      unfold ifV
      split
      · exact IH 1 (by omega)
      · split
        · exact IH 2 (by omega)
        · exact Nat.zero_le _
    · rw [if_neg (by omega), if_neg (by omega), if_neg (by omega), if_neg (by omega), if_neg (by omega), if_pos h]
      exact firstV_len IH
theorem VW.C_len {x : VW} (hs : solOk x.s x.vn) (b : List Int) : ((x.C b).getD zT).bs.length ≤ 30 := by
  unfold VW.C
  cases hf : (List.range x.vn).find? (fun i => decide ((x.var i).b = b)) with
  | none => exact Nat.zero_le _
  | some i =>
    have hi : i < x.vn := by
      have h := List.find?_range_eq_some.1 hf
      simpa using h.2.1
    have hc := hs.2 i (by rw [hs.1]; exact hi)
    show (((x.s.cel i).v).getD zT).bs.length ≤ 30
    unfold CB.v
    split
    · rename_i h
      exact TD.ok_len (hc.1 h)
    · exact Nat.zero_le _
/-- What may be asked for its value. -/
structure VOk (e : ET) (x : VW) : Prop where
  e : LoneOk e
  v : varsOkL x.vn x.var
  s : solOk x.s x.vn
/-- What Value is to answer. -/
def ValueIs (e : ET) (x : VW) (o : Option TD) : Prop := (VOk e x ∧ o = val x.C e) ∨ (¬ VOk e x ∧ o = none)
theorem valueIs (e : ET) (x : VW) : ∃ o, ValueIs e x o := by
  by_cases h : VOk e x
  · exact ⟨_, .inl ⟨h, rfl⟩⟩
  · exact ⟨_, .inr ⟨h, rfl⟩⟩
/-- What Value answers. -/
def ValA (o : Option TD) (w : World) (e : Ending) (w' : World) : Prop := ∃ t : TB, e = .returned (.tuple #[.agg #[.int .i64 t.t.k, .slice t.t.a t.t.len t.t.cap, .int .i64 t.t.n, .int .i64 t.t.s], .bool o.isSome]) ∧ (BsF w.heap.size w' t.sl ∧ t.t.fits) ∧ t.td = o.getD zT ∧ Below w.heap.size w w'
structure VV (w W : World) (x : VW) (e : ET) : Prop where
  bl : Below w.heap.size w W
  e : Box W w.heap.size [.int .i64 e.d.k, .int .i64 e.d.op, .slice e.d.v.a e.d.v.len e.d.v.cap, .int .i64 e.d.t.t.k, .slice e.d.t.t.a e.d.t.t.len e.d.t.t.cap, .int .i64 e.d.t.t.n, .int .i64 e.d.t.t.s, .slice e.d.ka e.d.n e.d.kc]
  s : Box W (w.heap.size + 1) [.slice x.s.a x.s.n x.s.cap]
  r : Own4 W (w.heap.size + 1 + 1) (.int .i64 0) (.slice none 0 0) (.int .i64 0) (.int .i64 0)
theorem VV.below {w W W' : World} {x : VW} {e : ET} (h : VV w W x e) (hb : Below W.heap.size W W') : VV w W' x e := ⟨bl_trans h.bl hb, h.e.below hb, h.s.below hb, h.r.below hb⟩
theorem VV.new (w : World) (x : VW) (e : ET) (t u v : TypeId) : VV w (((w.alloc (.cells #[.int .i64 e.d.k, .int .i64 e.d.op, .slice e.d.v.a e.d.v.len e.d.v.cap, .int .i64 e.d.t.t.k, .slice e.d.t.t.a e.d.t.t.len e.d.t.t.cap, .int .i64 e.d.t.t.n, .int .i64 e.d.t.t.s, .slice e.d.ka e.d.n e.d.kc] t)).alloc (.cells #[.slice x.s.a x.s.n x.s.cap] u)).alloc (.cells #[.int .i64 0, .slice none 0 0, .int .i64 0, .int .i64 0] v)) x e :=
  ⟨bl_alloc (bl_alloc (bl_a _) _) _, ((Box.new w #[.int .i64 e.d.k, .int .i64 e.d.op, .slice e.d.v.a e.d.v.len e.d.v.cap, .int .i64 e.d.t.t.k, .slice e.d.t.t.a e.d.t.t.len e.d.t.t.cap, .int .i64 e.d.t.t.n, .int .i64 e.d.t.t.s, .slice e.d.ka e.d.n e.d.kc] t (0, 0)).below (bl_a _)).below (bl_a _), (show Box _ _ _ by have h := (Box.new (w.alloc (.cells #[.int .i64 e.d.k, .int .i64 e.d.op, .slice e.d.v.a e.d.v.len e.d.v.cap, .int .i64 e.d.t.t.k, .slice e.d.t.t.a e.d.t.t.len e.d.t.t.cap, .int .i64 e.d.t.t.n, .int .i64 e.d.t.t.s, .slice e.d.ka e.d.n e.d.kc] t)) #[.slice x.s.a x.s.n x.s.cap] u (0, 0)).below (bl_a (.cells #[.int .i64 0, .slice none 0 0, .int .i64 0, .int .i64 0] v)); simpa using h), Own4.at ((w.alloc _).alloc _) (w.heap.size + 1 + 1) _ _ _ _ _ (by simp)⟩
set_option maxHeartbeats 4000000 in
theorem Value_any (e : ET) (x : VW) (o : Option TD) (w : World) (he : e.lies 0 w) (hx : x.lies 0 w) (ho : ValueIs e x o) : Calls Try.prog 4 #[.agg #[.int .i64 e.d.k, .int .i64 e.d.op, .slice e.d.v.a e.d.v.len e.d.v.cap, .int .i64 e.d.t.t.k, .slice e.d.t.t.a e.d.t.t.len e.d.t.t.cap, .int .i64 e.d.t.t.n, .int .i64 e.d.t.t.s, .slice e.d.ka e.d.n e.d.kc], .slice x.va x.vn x.vc, .agg #[.slice x.s.a x.s.n x.s.cap]] w (ValA o w) := by
  have HT := hid (VV.new w x e 29 32 24)
  have HL := hid (fun W (hb : Below w.heap.size w W) => loneExpr_any e W (he.below hb))
  have HVO := hid (fun W (hb : Below w.heap.size w W) => varsOkP_any x.va x.vn x.vc x.var W (hx.1.upper (Upper.of_below hb)) (fun i hi => SL.lies.upper (hx.2.1 i hi) (Upper.of_below hb)) hx.2.2.1)
  have HSO := hid (fun W (hb : Below w.heap.size w W) => isOver_any x.s x.va x.vn x.vc W (hx.2.2.2.upper (Upper.of_below hb)))
  have HVA := hid (fun (hv : VOk e x) W (hb : Below w.heap.size w W) => value_any x w hx hv.s e 120 1 he hv.e.ok W hb)
  have HO := hid ho
  have HLN : Hid (VOk e x → ∀ t, VT w (val x.C e) t → t.t.len ≤ 1000000) := fun hv t h => by
    have h1 := val_len (VW.C_len hv.s) e 120 1 hv.e.ok
    rw [← h.td] at h1
    have h2 := h.len
    have h3 : t.td.bs.length = t.b.length := rfl
    omega
  clear he hx ho
  go_in
  go_upto_region 1 with fail
  generalize (((w.alloc _).alloc _).alloc _) = W1 at *
  have le : W1.rangeAt w.heap.size 0 [.int .i64 e.d.k, .int .i64 e.d.op, .slice e.d.v.a e.d.v.len e.d.v.cap, .int .i64 e.d.t.t.k, .slice e.d.t.t.a e.d.t.t.len e.d.t.t.cap, .int .i64 e.d.t.t.n, .int .i64 e.d.t.t.s, .slice e.d.ka e.d.n e.d.kc] := HT.out.e.range 0 _ rfl
  go_wp2_with (with_reducible refine wpv_at ?_; refine wpList_load_mid rfl 29 _ rfl _ _ rfl [.int .i64 e.d.k, .int .i64 e.d.op, .slice e.d.v.a e.d.v.len e.d.v.cap, .int .i64 e.d.t.t.k, .slice e.d.t.t.a e.d.t.t.len e.d.t.t.cap, .int .i64 e.d.t.t.n, .int .i64 e.d.t.t.s, .slice e.d.ka e.d.n e.d.kc] _ le Try.underlying29 rfl (by kernel_rfl) ?_; try simp only [Act.put, List.setIfInBounds_toArray, List.set_cons_zero, List.set_cons_succ])
  refine (HL.out _ HT.out.bl).mono ?_
  rintro r w2 ⟨q1, rfl, hq1, hb2⟩
  have HT2 := hid (HT.out.below hb2)
  clear hb2 HT HL le
  cases q1 with
  | false =>
    have HNO : Hid (o = none) := by
      rcases HO.out with ⟨h, _⟩ | ⟨_, h⟩
      · have h2 := hq1.2 h.e; cases h2
      · exact h
    have hw := HT2.out.bl
    clear hq1 HO
    obtain ⟨⟨r0, r1, r2, r3, r4⟩, f0, f1, f2, f3⟩ := id HT2.out.r
    go_wp2
    try simp only [Exit.inBlock, Exit.then]
    refine bodyPost_ret (v := .tuple #[.agg #[.int .i64 0, .slice none 0 0, .int .i64 0, .int .i64 0], .bool false]) (by simp [results, Try.results4, go_sem, *]) rfl ⟨tB0 0 0 0, by rw [HNO.out]; rfl, tl0 _ _, by rw [HNO.out]; rfl, ?_⟩
    repeat (first | with_reducible exact hw | with_reducible refine bl_set ?_ (by dsimp only; omega) _)
  | true =>
    have H1 := hid (hq1.1 rfl)
    clear hq1
    go_wp2_with fail
    refine (HVO.out _ HT2.out.bl).mono ?_
    rintro r w3 ⟨q2, rfl, hq2, hb3⟩
    have HT3 := hid (HT2.out.below hb3)
    clear hb3 HT2 HVO
    cases q2 with
    | false =>
      have HNO : Hid (o = none) := by
        rcases HO.out with ⟨h, _⟩ | ⟨_, h⟩
        · have h2 := hq2.2 h.v; cases h2
        · exact h
      have hw := HT3.out.bl
      clear hq2 HO
      obtain ⟨⟨r0, r1, r2, r3, r4⟩, f0, f1, f2, f3⟩ := id HT3.out.r
      go_wp2
      try simp only [Exit.inBlock, Exit.then]
      refine bodyPost_ret (v := .tuple #[.agg #[.int .i64 0, .slice none 0 0, .int .i64 0, .int .i64 0], .bool false]) (by simp [results, Try.results4, go_sem, *]) rfl ⟨tB0 0 0 0, by rw [HNO.out]; rfl, tl0 _ _, by rw [HNO.out]; rfl, ?_⟩
      repeat (first | with_reducible exact hw | with_reducible refine bl_set ?_ (by dsimp only; omega) _)
    | true =>
      have H2 := hid (hq2.1 rfl)
      have s0 := HT3.out.s.2 0 _ rfl
      have ls : w3.rangeAt (w.heap.size + 1) 0 [.slice x.s.a x.s.n x.s.cap] := HT3.out.s.range 0 _ rfl
      clear hq2
      go_wp2_with (with_reducible refine wpv_at ?_; refine wpList_load_mid rfl 32 _ rfl _ _ rfl [.slice x.s.a x.s.n x.s.cap] _ ls Try.underlying32 rfl (by kernel_rfl) ?_; try simp only [Act.put, List.setIfInBounds_toArray, List.set_cons_zero, List.set_cons_succ])
      refine (HSO.out _ HT3.out.bl).mono ?_
      rintro r w4 ⟨q3, rfl, hq3, hb4⟩
      have HT4 := hid (HT3.out.below hb4)
      clear hb4 HT3 HSO s0 ls
      cases q3 with
      | false =>
        have HNO : Hid (o = none) := by
          rcases HO.out with ⟨h, _⟩ | ⟨_, h⟩
          · have h2 := hq3.2 h.s; cases h2
          · exact h
        have hw := HT4.out.bl
        clear hq3 HO
        obtain ⟨⟨r0, r1, r2, r3, r4⟩, f0, f1, f2, f3⟩ := id HT4.out.r
        go_wp2
        try simp only [Exit.inBlock, Exit.then]
        refine bodyPost_ret (v := .tuple #[.agg #[.int .i64 0, .slice none 0 0, .int .i64 0, .int .i64 0], .bool false]) (by simp [results, Try.results4, go_sem, *]) rfl ⟨tB0 0 0 0, by rw [HNO.out]; rfl, tl0 _ _, by rw [HNO.out]; rfl, ?_⟩
        repeat (first | with_reducible exact hw | with_reducible refine bl_set ?_ (by dsimp only; omega) _)
      | true =>
        have HOK : Hid (VOk e x) := ⟨H1.out, H2.out, hq3.1 rfl⟩
        have HY : Hid (o = val x.C e) := by
          rcases HO.out with ⟨_, h⟩ | ⟨h, _⟩
          · exact h
          · exact absurd HOK.out h
        have ls : w4.rangeAt (w.heap.size + 1) 0 [.slice x.s.a x.s.n x.s.cap] := HT4.out.s.range 0 _ rfl
        have le : w4.rangeAt w.heap.size 0 [.int .i64 e.d.k, .int .i64 e.d.op, .slice e.d.v.a e.d.v.len e.d.v.cap, .int .i64 e.d.t.t.k, .slice e.d.t.t.a e.d.t.t.len e.d.t.t.cap, .int .i64 e.d.t.t.n, .int .i64 e.d.t.t.s, .slice e.d.ka e.d.n e.d.kc] := HT4.out.e.range 0 _ rfl
        have HC := hid (HVA.out HOK.out w4 HT4.out.bl)
        have HLO := hid (HLN.out HOK.out)
        rw [← HY.out] at HC HLO
        clear hq3 HO HVA HLN H1 H2
        go_wp2_with (first | (with_reducible refine wpv_at ?_; refine wpList_load_mid rfl 32 _ rfl _ _ rfl [.slice x.s.a x.s.n x.s.cap] _ ls Try.underlying32 rfl (by kernel_rfl) ?_; try simp only [Act.put, List.setIfInBounds_toArray, List.set_cons_zero, List.set_cons_succ]) | (with_reducible refine wpv_at ?_; refine wpList_load_mid rfl 29 _ rfl _ _ rfl [.int .i64 e.d.k, .int .i64 e.d.op, .slice e.d.v.a e.d.v.len e.d.v.cap, .int .i64 e.d.t.t.k, .slice e.d.t.t.a e.d.t.t.len e.d.t.t.cap, .int .i64 e.d.t.t.n, .int .i64 e.d.t.t.s, .slice e.d.ka e.d.n e.d.kc] _ le Try.underlying29 rfl (by kernel_rfl) ?_; try simp only [Act.put, List.setIfInBounds_toArray, List.set_cons_zero, List.set_cons_succ]))
        refine HC.out.mono ?_
        rintro r w5 ⟨t, rfl, hV, hb5⟩
        have HT5 := hid (HT4.out.below hb5)
        have HVT := hid hV
        have HLT := hid (HLO.out t hV)
        obtain ⟨q, hq⟩ : ∃ q, q = o.isSome := ⟨_, rfl⟩
        rw [← hq]
        have HQ := hid hq
        clear hb5 hV hq HT4 ls le HC HLO
        go_upto_region 4 with fail
        have HT6 := hid (HT5.out.below (bl_a (w := w5) (.cells #[.int .i64 t.t.k, .slice t.t.a t.t.len t.t.cap, .int .i64 t.t.n, .int .i64 t.t.s] 24)))
        have HN6 := hid (At4.new w5 (.int .i64 t.t.k) (.slice t.t.a t.t.len t.t.cap) (.int .i64 t.t.n) (.int .i64 t.t.s) 24)
        generalize w5.alloc (.cells #[.int .i64 t.t.k, .slice t.t.a t.t.len t.t.cap, .int .i64 t.t.n, .int .i64 t.t.s] 24) = W6 at *
        obtain ⟨_, n0, n1, n2, n3⟩ := HN6.out
        have HCP := hid (copied_any t W6 ⟨HVT.out.bs.upper (Upper.of_below HT6.out.bl), HVT.out.ft⟩ HLT.out)
        clear HT5 HN6
        go_wp2_with fail
        refine HCP.out.mono ?_
        rintro r w7 ⟨u, rfl, hu, huf, hut, hb7⟩
        have HT7 := hid (HT6.out.below hb7)
        have HUT := hid hut
        have HUL := hid hu
        have HUF := hid huf
        have hg6 : w.heap.size + 1 + 1 < W6.heap.size := HT6.out.r.1.1
        have hw := HT7.out.bl
        clear hb7 hu huf hut HT6 HCP n0 n1 n2 n3
        have st : w7.there (w.heap.size + 1 + 1) 0 4 := HT7.out.r.there
        have on : (#[.int .i64 u.t.k, .slice u.t.a u.t.len u.t.cap, .int .i64 u.t.n, .int .i64 u.t.s] : Array Value).all (·.oneCell') = true := all_oneCell_toArray (cs := [.int .i64 u.t.k, .slice u.t.a u.t.len u.t.cap, .int .i64 u.t.n, .int .i64 u.t.s]) (by simp [Value.oneCell'])
        have hrd : (w7.setCells (w.heap.size + 1 + 1) 0 [.int .i64 u.t.k, .slice u.t.a u.t.len u.t.cap, .int .i64 u.t.n, .int .i64 u.t.s]).rangeAt (w.heap.size + 1 + 1) 0 [.int .i64 u.t.k, .slice u.t.a u.t.len u.t.cap, .int .i64 u.t.n, .int .i64 u.t.s] := World.rangeAt_setCells_same _ _ _ _ st
        have hbf := hid (below_sets (w0 := w) (w.heap.size + 1 + 1) (by omega) [.int .i64 u.t.k, .slice u.t.a u.t.len u.t.cap, .int .i64 u.t.n, .int .i64 u.t.s] 0 w7 hw)
        have HUZ : Hid (BsF w.heap.size (w7.setCells (w.heap.size + 1 + 1) 0 [.int .i64 u.t.k, .slice u.t.a u.t.len u.t.cap, .int .i64 u.t.n, .int .i64 u.t.s]) u.sl) := (HUL.out.upper ((upper_sets (w.heap.size + 1 + 1) [.int .i64 u.t.k, .slice u.t.a u.t.len u.t.cap, .int .i64 u.t.n, .int .i64 u.t.s] 0 w7).mono (by omega))).base (by omega)
        go_wp2_with (with_reducible refine wpv_at ?_; refine store_stopV 24 (.tmp 6) (.tmp 34) rfl ?_)
        change wpList _ _ _ _ _ _
        refine wpList_store_mid rfl 24 _ _ rfl (w.heap.size + 1 + 1) 0 #[.int .i64 u.t.k, .slice u.t.a u.t.len u.t.cap, .int .i64 u.t.n, .int .i64 u.t.s] rfl rfl st (by kernel_rfl) on ?_
        try simp only [Act.put]
        generalize w7.setCells (w.heap.size + 1 + 1) 0 [.int .i64 u.t.k, .slice u.t.a u.t.len u.t.cap, .int .i64 u.t.n, .int .i64 u.t.s] = W8 at *
        clear st on HT7 hw
        go_wp2
        try simp only [Exit.inBlock, Exit.then]
        refine bodyPost_ret (v := .tuple #[.agg #[.int .i64 u.t.k, .slice u.t.a u.t.len u.t.cap, .int .i64 u.t.n, .int .i64 u.t.s], .bool q]) ?hr rfl ?hp
        case hr => exact results_cell2 rfl rfl rfl (run_loadVar_mid (P := Try.prog) _ (w.heap.size + 1 + 1) 0 24 [.int .i64 u.t.k, .slice u.t.a u.t.len u.t.cap, .int .i64 u.t.n, .int .i64 u.t.s] _ hrd Try.underlying24 rfl (by kernel_rfl))
        exact ⟨u, by rw [HQ.out], ⟨HUZ.out, HUF.out⟩, HUT.out.trans HVT.out.td, hbf.out⟩
end Go.Proofs.Ytidhcbjhggdncaa

/- DrwC -/
namespace Go.Proofs.Ytidhcbjhggdncaa
open Go.RowKit Go.Deep

/-- What a draw of a term answers, the cursor in block g. -/
def TermDrawn (g : Nat) (a : Option Addr) (len cap : Nat) (w : World) (e : Ending) (w' : World) : Prop := TermRes w.heap.size e w' ∧ Past g w w' ∧ Cur w' g a len cap

theorem Past.set_new {g : Nat} {w w' : World} (h : Past g w w') {p : Addr} (hp : w.heap.size ≤ p.block) (v : Value) : Past g w (w'.setCell p v) :=
  ⟨h.os, h.tape, h.output, by simpa using h.size, fun b hb hn => (Below.heap_setCell _ _ _ _ (by omega)).trans (h.block b hb hn)⟩
theorem Cur.glue {w w3 w' : World} {g : Nat} {a : Option Addr} {len cap : Nat} (h : Cur w g a len cap) (h3 : Cur w3 g a len cap) (hP : Past g w w') (hg : w'.heap[g]? = w3.heap[g]?) : Cur w' g a len cap := by
  have e : ∀ i, w'.cell? ⟨g, i, none⟩ = w3.cell? ⟨g, i, none⟩ := fun i => World.cell?_of_block (w := w3) (a := ⟨g, i, none⟩) hg
  have f : ∀ i, w'.frozen? ⟨g, i, none⟩ = w3.frozen? ⟨g, i, none⟩ := fun i => World.frozen?_of_block (w := w3) (a := ⟨g, i, none⟩) hg
  refine ⟨Nat.lt_of_lt_of_le h.lt hP.size, (e 0).trans h3.c0, ?_, ?_, (f 1).trans h3.f1, (f 2).trans h3.f2, ?_⟩
  · rw [e 1]; exact h3.c1
  · rw [e 2]; exact h3.c2
  · rcases h.code with hc | ⟨b, off, ha, hlt, hn, hc⟩
    · exact .inl hc
    · refine .inr ⟨b, off, ha, Nat.lt_of_lt_of_le hlt hP.size, hn, fun i hi => ?_⟩
      rw [hP.cell (p := ⟨b, off + i, none⟩) hlt hn]
      exact hc i hi
theorem numP_bounds (q : Int) (z : Nat) : (-9223372036854775808 ≤ tN (numP q z) ∧ tN (numP q z) ≤ 9223372036854775807) ∧ (-9223372036854775808 ≤ tS (numP q z) ∧ tS (numP q z) ≤ 9223372036854775807) := by
  unfold tN tS
  by_cases h : numOk (numP q z).1 (numP q z).2 = true
  · rw [if_pos h, if_pos h]
    simp only [numOk, Bool.and_eq_true, decide_eq_true_eq] at h
    omega
  · rw [if_neg h, if_neg h]
    omega
theorem numP_b6 (q : Int) (z : Nat) : 0 ≤ tS (numP q z) ∧ tS (numP q z) ≤ 6 := by
  unfold tS
  by_cases h : numOk (numP q z).1 (numP q z).2 = true
  · rw [if_pos h]
    simp only [numOk, Bool.and_eq_true, decide_eq_true_eq] at h
    omega
  · rw [if_neg h]
    omega
/-- The end of a draw: the answer is laid into block r and given back. -/
theorem term_end {g : Nat} {a : Option Addr} {len cap : Nat} {w w3 : World} {k n s : Int} {ta : Option Addr} {tl tc : Nat} {bs : List Int} {r B : Nat} (hC : Cur w g a len cap) (hP : Past g w w3) (hC3 : Cur w3 g a len cap) (hT : Tx w3 B ta tl tc bs) (hB : r < B) (hr : w.heap.size ≤ r) (hrg : g ≠ r)
    (hn : -9223372036854775808 ≤ n ∧ n ≤ 9223372036854775807) (hs : 0 ≤ s ∧ s ≤ 6) (hl : tl ≤ 100) :
    TermDrawn g a len cap w (.returned (.agg #[.int .i64 k, .slice ta tl tc, .int .i64 n, .int .i64 s])) ((((w3.setCell ⟨r, 0, none⟩ (.int .i64 k)).setCell ⟨r, 1, none⟩ (.slice ta tl tc)).setCell ⟨r, 2, none⟩ (.int .i64 n)).setCell ⟨r, 3, none⟩ (.int .i64 s)) := by
  have hQ : Past r w3 ((((w3.setCell ⟨r, 0, none⟩ (.int .i64 k)).setCell ⟨r, 1, none⟩ (.slice ta tl tc)).setCell ⟨r, 2, none⟩ (.int .i64 n)).setCell ⟨r, 3, none⟩ (.int .i64 s)) := ((((Past.refl r w3).set 0 _).set 1 _).set 2 _).set 3 _
  have hP' : Past g w ((((w3.setCell ⟨r, 0, none⟩ (.int .i64 k)).setCell ⟨r, 1, none⟩ (.slice ta tl tc)).setCell ⟨r, 2, none⟩ (.int .i64 n)).setCell ⟨r, 3, none⟩ (.int .i64 s)) := (((hP.set_new (p := ⟨r, 0, none⟩) hr _).set_new (p := ⟨r, 1, none⟩) hr _).set_new (p := ⟨r, 2, none⟩) hr _).set_new (p := ⟨r, 3, none⟩) hr _
  exact ⟨⟨k, n, s, ta, tl, tc, bs, rfl, hn, hs, hl, (hT.past hQ hB).mono (by omega)⟩, hP', hC.glue hC3 hP' (hQ.block g hC3.lt hrg)⟩

set_option maxRecDepth 20000 in
set_option maxHeartbeats 2000000 in
theorem l1term_any (g : Nat) (a : Option Addr) (len cap : Nat) (w : World) (hlen : len ≤ 9223372036854775807) (hC : Cur w g a len cap) :
    Calls Try.prog 40 #[.pointer (some ⟨g, 0, none⟩)] w fun e w' => TermDrawn g a len cap w e w' := by
  have B := fun w (n : Nat) (h : Cur w g a len cap) (h1 : 1 ≤ n) (h2 : n ≤ 256) => l1Below_any g a len cap n w hlen h h1 h2
  have O := fun w (n : Nat) (h : Cur w g a len cap) (h1 : 1 ≤ n) (h2 : n ≤ 256) => l1Once_any g a len cap n w hlen h h1 h2
  have hgl := hC.lt
  have HC : Hid (Cur w g a len cap) := hC
  clear hC
  go_enter Try.func40, Try.ntmps40
  go_wp2_with fail
  refine (B _ 6 (HC.out.below (bl_a _)) (by omega) (by omega)).mono ?_
  rintro e w1 ⟨x, rfl, hx, hP1, hC1⟩
  have hR1 := (Own4.at w w.heap.size (.int .i64 0) (.slice none 0 0) (.int .i64 0) (.int .i64 0) 24 rfl)
  have hR : Own4 w1 w.heap.size (.int .i64 0) (.slice none 0 0) (.int .i64 0) (.int .i64 0) := hR1.past hP1 (by omega)
  have hP := (Past.of_below (g := g) (bl_a (w := w) (.cells #[.int .i64 0, .slice none 0 0, .int .i64 0, .int .i64 0] 24))).trans hP1
  have hs1 := hP1.size
  simp at hs1
  clear hR1 hP1
  by_cases hx2 : x = 2
  · subst hx2
    go_wp2_with fail
    refine (B _ 4 hC1 (by omega) (by omega)).mono ?_
    rintro e w2 ⟨y, rfl, hy, hP2, hC2⟩
    have hR2 := hR.past hP2 (by omega)
    replace hP := hP.trans hP2
    have HP : Hid (Past g w w2) := hP
    have HC2 : Hid (Cur w2 g a len cap) := hC2
    obtain ⟨⟨o0, o1, o2, o3, o4⟩, f0, f1, f2, f3⟩ := id hR2
    clear B O hC1 hR hP hP2 hC2 hR2
    go_wp2
    refine bodyPost_ret (v := .agg #[.int .i64 1, .slice none 0 0, .int .i64 y, .int .i64 0]) (by simp [results, Try.results40, go_sem, *]) rfl ?_
    exact term_end HC.out HP.out HC2.out (Tx.nil w2 (w.heap.size + 1)) (by omega) (Nat.le_refl _) (by omega) (by omega) (by omega) (by omega)
  by_cases hx3 : x ≤ 1
  · have hxx : x = 0 ∨ x = 1 := by omega
    rcases hxx with rfl | rfl
    · go_wp2_with fail
      refine (B _ 6 (hC1.below (bl_a _)) (by omega) (by omega)).mono ?_
      rintro e w2 ⟨y, rfl, hy, hP2, hC2⟩
      have hcl := hP2.cell (p := ⟨w1.heap.size, y, none⟩) (by simp) (show w1.heap.size ≠ g by omega)
      have hs2 := hP2.size
      simp at hs2
      have hR2 := (hR.below (bl_a _)).past hP2 (by omega)
      replace hP := (hP.trans (Past.of_below (bl_a _))).trans hP2
      obtain ⟨t, ht, hct⟩ : ∃ t : ByteArray, t.size ≤ 100 ∧ w2.cell? ⟨w1.heap.size, y, none⟩ = some (.string t) := by
        have hyy : y = 0 ∨ y = 1 ∨ y = 2 ∨ y = 3 ∨ y = 4 ∨ y = 5 := by omega
        rcases hyy with rfl | rfl | rfl | rfl | rfl | rfl
        all_goals
          simp [go_sem] at hcl
          exact ⟨_, by decide, hcl⟩
      have HP : Hid (Past g w w2) := hP
      have HC2 : Hid (Cur w2 g a len cap) := hC2
      clear B O hC1 hP2 hR hcl hP hC2
      go_wp2_with fail
      refine (l1name_any t _ ht).mono ?_
      rintro e w3 ⟨⟨k, n, s, ta, tl, tc, bs, rfl, hn, hsc, htl, hT⟩, hb3⟩
      have hR3 := hR2.below hb3
      have HP3 : Hid (Past g w w3) := HP.out.trans (Past.of_below hb3)
      have HC3 : Hid (Cur w3 g a len cap) := HC2.out.below hb3
      have HT : Hid (Tx w3 w2.heap.size ta tl tc bs) := hT
      obtain ⟨⟨o0, o1, o2, o3, o4⟩, f0, f1, f2, f3⟩ := id hR3
      clear hR2 hR3 hT hb3 HP HC2 hct
      go_wp2
      refine bodyPost_ret (v := .agg #[.int .i64 k, .slice ta tl tc, .int .i64 n, .int .i64 s]) (by simp [results, Try.results40, go_sem, *]) rfl ?_
      exact term_end HC.out HP3.out HC3.out HT.out (by omega) (Nat.le_refl _) (by omega) hn hsc htl
    · go_wp2_with fail
      refine (B _ 6 (hC1.below (bl_a _)) (by omega) (by omega)).mono ?_
      rintro e w2 ⟨y, rfl, hy, hP2, hC2⟩
      have hcl := hP2.cell (p := ⟨w1.heap.size, y, none⟩) (by simp) (show w1.heap.size ≠ g by omega)
      have hs2 := hP2.size
      simp at hs2
      have hR2 := (hR.below (bl_a _)).past hP2 (by omega)
      replace hP := (hP.trans (Past.of_below (bl_a _))).trans hP2
      obtain ⟨t, ht, hct⟩ : ∃ t : ByteArray, t.size ≤ 100 ∧ w2.cell? ⟨w1.heap.size, y, none⟩ = some (.string t) := by
        have hyy : y = 0 ∨ y = 1 ∨ y = 2 ∨ y = 3 ∨ y = 4 ∨ y = 5 := by omega
        rcases hyy with rfl | rfl | rfl | rfl | rfl | rfl
        all_goals
          simp [go_sem] at hcl
          exact ⟨_, by decide, hcl⟩
      have HP : Hid (Past g w w2) := hP
      have HC2 : Hid (Cur w2 g a len cap) := hC2
      clear B O hC1 hP2 hR hcl hP hC2
      go_wp2_with fail
      refine (l1name_any t _ ht).mono ?_
      rintro e w3 ⟨⟨k, n, s, ta, tl, tc, bs, rfl, hn, hsc, htl, hT⟩, hb3⟩
      have hR3 := hR2.below hb3
      have HP3 : Hid (Past g w w3) := HP.out.trans (Past.of_below hb3)
      have HC3 : Hid (Cur w3 g a len cap) := HC2.out.below hb3
      have HT : Hid (Tx w3 w2.heap.size ta tl tc bs) := hT
      obtain ⟨⟨o0, o1, o2, o3, o4⟩, f0, f1, f2, f3⟩ := id hR3
      clear hR2 hR3 hT hb3 HP HC2 hct
      go_wp2
      refine bodyPost_ret (v := .agg #[.int .i64 k, .slice ta tl tc, .int .i64 n, .int .i64 s]) (by simp [results, Try.results40, go_sem, *]) rfl ?_
      exact term_end HC.out HP3.out HC3.out HT.out (by omega) (Nat.le_refl _) (by omega) hn hsc htl
  by_cases hx4 : x = 3
  · subst hx4
    go_wp2_with fail
    refine (B _ 6 (hC1.below (bl_a _)) (by omega) (by omega)).mono ?_
    rintro e w2 ⟨y, rfl, hy, hP2, hC2⟩
    have hcl := hP2.cell (p := ⟨w1.heap.size, y, none⟩) (by simp) (show w1.heap.size ≠ g by omega)
    have hs2 := hP2.size
    simp at hs2
    have hR2 := (hR.below (bl_a _)).past hP2 (by omega)
    replace hP := (hP.trans (Past.of_below (bl_a _))).trans hP2
    obtain ⟨t, ht, hct⟩ : ∃ t : ByteArray, t.size ≤ 100 ∧ w2.cell? ⟨w1.heap.size, y, none⟩ = some (.string t) := by
      have hyy : y = 0 ∨ y = 1 ∨ y = 2 ∨ y = 3 ∨ y = 4 ∨ y = 5 := by omega
      rcases hyy with rfl | rfl | rfl | rfl | rfl | rfl
      all_goals
        simp [go_sem] at hcl
        exact ⟨_, by decide, hcl⟩
    have HP : Hid (Past g w w2) := hP
    have HC2 : Hid (Cur w2 g a len cap) := hC2
    clear B O hC1 hP2 hR hcl hP hC2
    have hcv := fun w => Lib.run_convert_string_bytes (P := Try.prog) w 9 22 5 t Try.underlying9 Try.underlying22 Try.underlying5
    have hb3 := bytesWorld_below w2 5 t
    have hR3 := hR2.below hb3
    have HP3 : Hid (Past g w (Lib.bytesWorld w2 5 t)) := HP.out.trans (Past.of_below hb3)
    have HC3 : Hid (Cur (Lib.bytesWorld w2 5 t) g a len cap) := HC2.out.below hb3
    have HT : Hid (Tx (Lib.bytesWorld w2 5 t) w2.heap.size (some ⟨w2.heap.size, 0, none⟩) t.size (grownCap w2 t.size 0 5) (numsOf t)) := Tx.conv w2 t 5 (by omega)
    obtain ⟨⟨o0, o1, o2, o3, o4⟩, f0, f1, f2, f3⟩ := id hR3
    clear hR2 hR3 hb3 HP HC2
    go_wp2
    refine bodyPost_ret (v := .agg #[.int .i64 2, .slice (some ⟨w2.heap.size, 0, none⟩) t.size (grownCap w2 t.size 0 5), .int .i64 0, .int .i64 0]) (by simp [results, Try.results40, go_sem, *]) rfl ?_
    exact term_end HC.out HP3.out HC3.out HT.out (by omega) (Nat.le_refl _) (by omega) (by omega) (by omega) ht
  have PI := fun w (lb n : Nat) (L : Nat → Int) (h : Cur w g a len cap) h1 h2 h3 h4 h5 => l1PickInt_any g lb a len cap n L w hlen h h1 h2 h3 h4 h5
  have hxx : x = 4 ∨ x = 5 := by omega
  have e0 : ((x : Int) == 0) = false := by simp; omega
  have e1 : ((x : Int) == 1) = false := by simp; omega
  have e2 : ((x : Int) == 2) = false := by simp; omega
  have e3 : ((x : Int) == 3) = false := by simp; omega
  go_wp2_with fail
  refine (O _ 3 hC1 (by omega) (by omega)).mono ?_
  rintro e w2 ⟨p, rfl, hP2, hC2⟩
  have hR2 := hR.past hP2 (by omega)
  have hs2 := hP2.size
  have HP2 : Hid (Past g w w2) := hP.trans hP2
  clear hC1 hR hP hP2 hxx
  cases p
  · have hRq := hR2
    have HPq := HP2
    have HCq : Hid (Cur w2 g a len cap) := hC2
    clear hR2 HP2 hC2 PI
    go_wp2_with fail
    refine (B _ 7 HCq.out (by omega) (by omega)).mono ?_
    rintro e w5 ⟨z, rfl, hz, hP5, hC5⟩
    have hR5 := hRq.past hP5 (by omega)
    have hs5 := hP5.size
    have HP5 : Hid (Past g w w5) := HPq.out.trans hP5
    have HC5 : Hid (Cur w5 g a len cap) := hC5
    clear B O hP5 hC5 hRq HPq HCq
    go_wp2_with fail
    refine (l1int_d ((z : Int) - 2) _ (by omega)).mono ?_
    rintro e w6 ⟨⟨k, n, s, ta, tl, tc, bs, rfl, hn, hsc, htl, hT⟩, hb6⟩
    have hR6 := hR5.below hb6
    have HP6 : Hid (Past g w w6) := HP5.out.trans (Past.of_below hb6)
    have HC6 : Hid (Cur w6 g a len cap) := HC5.out.below hb6
    have HT : Hid (Tx w6 w5.heap.size ta tl tc bs) := hT
    obtain ⟨⟨o0, o1, o2, o3, o4⟩, f0, f1, f2, f3⟩ := id hR6
    clear hR5 hR6 hT hb6 HP5 HC5
    go_wp2
    refine bodyPost_ret (v := .agg #[.int .i64 k, .slice ta tl tc, .int .i64 n, .int .i64 s]) (by simp [results, Try.results40, go_sem, *]) rfl ?_
    exact term_end HC.out HP6.out HC6.out HT.out (by omega) (Nat.le_refl _) (by omega) hn hsc htl
  · go_wp2_with fail
    refine (PI _ w2.heap.size 7 (fun i => if i = 0 then 15 else if i = 1 then -25 else if i = 2 then 1 else if i = 3 then 1000000000000000 else if i = 4 then -1000000000000000 else if i = 5 then 999999 else 123456789012) (hC2.below (bl_a _)) (by omega) (by omega) (by simp) (by omega) (by
      intro i hi
      have hii : i = 0 ∨ i = 1 ∨ i = 2 ∨ i = 3 ∨ i = 4 ∨ i = 5 ∨ i = 6 := by omega
      rcases hii with rfl | rfl | rfl | rfl | rfl | rfl | rfl
      all_goals simp [go_sem])).mono ?_
    rintro e w3 ⟨j, hj, rfl, hP3, hC3⟩
    obtain ⟨q, hq, hq1, hq2⟩ : ∃ q : Int, q = (if j = 0 then 15 else if j = 1 then -25 else if j = 2 then 1 else if j = 3 then 1000000000000000 else if j = 4 then -1000000000000000 else if j = 5 then 999999 else 123456789012) ∧ -1000000000000000 ≤ q ∧ q ≤ 1000000000000000 := by
      refine ⟨_, rfl, ?_⟩
      have hii : j = 0 ∨ j = 1 ∨ j = 2 ∨ j = 3 ∨ j = 4 ∨ j = 5 ∨ j = 6 := by omega
      rcases hii with rfl | rfl | rfl | rfl | rfl | rfl | rfl
      all_goals decide
    rw [← hq]
    clear hq hj
    have hR3 := (hR2.below (bl_a _)).past hP3 (by omega)
    have hs3 := hP3.size
    simp at hs3
    have HP3 : Hid (Past g w w3) := (HP2.out.trans (Past.of_below (bl_a _))).trans hP3
    clear hP3 hR2 HP2 hC2
    go_wp2_with fail
    refine (B _ 7 hC3 (by omega) (by omega)).mono ?_
    rintro e w4 ⟨z, rfl, hz, hP4, hC4⟩
    have hR4 := hR3.past hP4 (by omega)
    have hs4 := hP4.size
    have HP4 : Hid (Past g w w4) := HP3.out.trans hP4
    clear hP4 hR3 HP3 hC3
    go_wp2_with fail
    refine (specNum_any q z _ (by omega) (by omega)).mono ?_
    rintro e w5 ⟨rfl, hb5⟩
    have hbq := numP_bounds q z
    have hb6 := numP_b6 q z
    generalize tK (numP q z) = u1 at *
    generalize tN (numP q z) = u2 at *
    generalize tS (numP q z) = u3 at *
    generalize numOk (numP q z).1 (numP q z).2 = u4 at *
    have hRq := (hR4.below hb5).below (bl_a (.cells #[.int .i64 u1, .slice none 0 0, .int .i64 u2, .int .i64 u3] 24))
    have HPq : Hid (Past g w (w5.alloc (.cells #[.int .i64 u1, .slice none 0 0, .int .i64 u2, .int .i64 u3] 24))) := (HP4.out.trans (Past.of_below hb5)).trans (Past.of_below (bl_a _))
    have HCq : Hid (Cur (w5.alloc (.cells #[.int .i64 u1, .slice none 0 0, .int .i64 u2, .int .i64 u3] 24)) g a len cap) := (hC4.below hb5).below (bl_a _)
    have hZ := At4.new w5 (.int .i64 u1) (.slice none 0 0) (.int .i64 u2) (.int .i64 u3) 24
    have hsq : w.heap.size < (w5.alloc (.cells #[.int .i64 u1, .slice none 0 0, .int .i64 u2, .int .i64 u3] 24)).heap.size := by
      have := hb5.size
      simp
      omega
    clear hb5 hR4 HP4 hC4
    by_cases hu : u1 = 3
    · subst hu
      obtain ⟨⟨o0, o1, o2, o3, o4⟩, f0, f1, f2, f3⟩ := id hRq
      clear hRq B O
      go_wp2
      refine bodyPost_ret (v := .agg #[.int .i64 3, .slice none 0 0, .int .i64 u2, .int .i64 u3]) (by simp [results, Try.results40, go_sem, *]) rfl ?_
      exact term_end HC.out HPq.out HCq.out (Tx.nil _ (w.heap.size + 1)) (by omega) (Nat.le_refl _) (by omega) hbq.1 hb6 (by omega)
    · have hu' : (u1 == 3) = false := by simp [hu]
      clear hu hZ
      clear PI
      go_wp2_with fail
      refine (B _ 7 HCq.out (by omega) (by omega)).mono ?_
      rintro e w5 ⟨z, rfl, hz, hP5, hC5⟩
      have hR5 := hRq.past hP5 (by omega)
      have hs5 := hP5.size
      have HP5 : Hid (Past g w w5) := HPq.out.trans hP5
      have HC5 : Hid (Cur w5 g a len cap) := hC5
      clear B O hP5 hC5 hRq HPq HCq
      go_wp2_with fail
      refine (l1int_d ((z : Int) - 2) _ (by omega)).mono ?_
      rintro e w6 ⟨⟨k, n, s, ta, tl, tc, bs, rfl, hn, hsc, htl, hT⟩, hb6⟩
      have hR6 := hR5.below hb6
      have HP6 : Hid (Past g w w6) := HP5.out.trans (Past.of_below hb6)
      have HC6 : Hid (Cur w6 g a len cap) := HC5.out.below hb6
      have HT : Hid (Tx w6 w5.heap.size ta tl tc bs) := hT
      obtain ⟨⟨o0, o1, o2, o3, o4⟩, f0, f1, f2, f3⟩ := id hR6
      clear hR5 hR6 hT hb6 HP5 HC5
      go_wp2
      refine bodyPost_ret (v := .agg #[.int .i64 k, .slice ta tl tc, .int .i64 n, .int .i64 s]) (by simp [results, Try.results40, go_sem, *]) rfl ?_
      exact term_end HC.out HP6.out HC6.out HT.out (by omega) (Nat.le_refl _) (by omega) hn hsc htl
end Go.Proofs.Ytidhcbjhggdncaa
