/- Texts put together: TvF TvG TvH -/
import Derived.Test.YtidhcbjhggdncaaMk09
/- TvF -/
namespace Go.Proofs.Ytidhcbjhggdncaa
open Go.RowKit Go.Deep
set_option maxRecDepth 100000

set_option maxHeartbeats 2000000 in
theorem length_of (x : VW) (e : ET) (w0 w : World) (hv : KV x w0 e) (hw : Below w0.heap.size w0 w) : Calls Try.prog 37 #[.agg #[.slice x.va x.vn x.vc, .slice x.s.a x.s.n x.s.cap], .agg #[.int .i64 e.d.k, .int .i64 e.d.op, .slice e.d.v.a e.d.v.len e.d.v.cap, .int .i64 e.d.t.t.k, .slice e.d.t.t.a e.d.t.t.len e.d.t.t.cap, .int .i64 e.d.t.t.n, .int .i64 e.d.t.t.s, .slice e.d.ka e.d.n e.d.kc]] w (ValR w0 (lenV (val x.C e)) w) := by
  have HT := hid ((VE.new w x e 45 29).below (bl_a (.cells #[.int .i64 0, .slice none 0 0, .int .i64 0, .int .i64 0] 24)))
  have HR : Hid (Own4 (((w.alloc (.cells #[.slice x.va x.vn x.vc, .slice x.s.a x.s.n x.s.cap] 45)).alloc (.cells #[.int .i64 e.d.k, .int .i64 e.d.op, .slice e.d.v.a e.d.v.len e.d.v.cap, .int .i64 e.d.t.t.k, .slice e.d.t.t.a e.d.t.t.len e.d.t.t.cap, .int .i64 e.d.t.t.n, .int .i64 e.d.t.t.s, .slice e.d.ka e.d.n e.d.kc] 29)).alloc (.cells #[.int .i64 0, .slice none 0 0, .int .i64 0, .int .i64 0] 24)) (w.heap.size + 1 + 1) (.int .i64 0) (.slice none 0 0) (.int .i64 0) (.int .i64 0)) := Own4.at ((w.alloc _).alloc _) (w.heap.size + 1 + 1) _ _ _ _ _ (by simp)
  have HV := hid (fun W h => hv W (bl_trans hw h))
  obtain ⟨o, ho⟩ : ∃ o, o = val x.C e := ⟨_, rfl⟩
  rw [← ho] at HV ⊢
  clear hv hw ho
  go_in
  go_upto_region 1 with fail
  generalize (((w.alloc _).alloc _).alloc _) = W1 at *
  have lx : W1.rangeAt w.heap.size 0 [.slice x.va x.vn x.vc, .slice x.s.a x.s.n x.s.cap] := HT.out.x.range 0 _ rfl
  have le : W1.rangeAt (w.heap.size + 1) 0 [.int .i64 e.d.k, .int .i64 e.d.op, .slice e.d.v.a e.d.v.len e.d.v.cap, .int .i64 e.d.t.t.k, .slice e.d.t.t.a e.d.t.t.len e.d.t.t.cap, .int .i64 e.d.t.t.n, .int .i64 e.d.t.t.s, .slice e.d.ka e.d.n e.d.kc] := HT.out.e.range 0 _ rfl
  go_wp2_with (first | (with_reducible refine wpv_at ?_; refine wpList_load_mid rfl 45 _ rfl _ _ rfl [.slice x.va x.vn x.vc, .slice x.s.a x.s.n x.s.cap] _ lx Try.underlying45 rfl (by kernel_rfl) ?_; try simp only [Act.put, List.setIfInBounds_toArray, List.set_cons_zero, List.set_cons_succ]) | (with_reducible refine wpv_at ?_; refine wpList_load_mid rfl 29 _ rfl _ _ rfl [.int .i64 e.d.k, .int .i64 e.d.op, .slice e.d.v.a e.d.v.len e.d.v.cap, .int .i64 e.d.t.t.k, .slice e.d.t.t.a e.d.t.t.len e.d.t.t.cap, .int .i64 e.d.t.t.n, .int .i64 e.d.t.t.s, .slice e.d.ka e.d.n e.d.kc] _ le Try.underlying29 rfl (by kernel_rfl) ?_; try simp only [Act.put, List.setIfInBounds_toArray, List.set_cons_zero, List.set_cons_succ]))
  refine (HV.out _ HT.out.bl).mono ?_
  rintro r w2 ⟨t, rfl, hV, hb2⟩
  have HB2 := hid (bl_trans HT.out.bl hb2)
  have HR2 := hid (HR.out.below hb2)
  have HVT := hid hV
  clear hV hb2 lx le HT HV HR
  go_upto_region 2 with fail
  have HB3 := hid (bl_trans HB2.out (bl_a (w := w2) (.cells #[.int .i64 t.t.k, .slice t.t.a t.t.len t.t.cap, .int .i64 t.t.n, .int .i64 t.t.s] 24)))
  have HR3 := hid (HR2.out.below (bl_a (w := w2) (.cells #[.int .i64 t.t.k, .slice t.t.a t.t.len t.t.cap, .int .i64 t.t.n, .int .i64 t.t.s] 24)))
  have HN3 := hid (At4.new w2 (.int .i64 t.t.k) (.slice t.t.a t.t.len t.t.cap) (.int .i64 t.t.n) (.int .i64 t.t.s) 24)
  generalize w2.alloc (.cells #[.int .i64 t.t.k, .slice t.t.a t.t.len t.t.cap, .int .i64 t.t.n, .int .i64 t.t.s] 24) = W3 at *
  have hw := HB3.out
  obtain ⟨_, n0, n1, n2, n3⟩ := HN3.out
  clear HB2 HR2 HB3 HN3
  cases o with
  | none =>
    obtain ⟨⟨r0, r1, r2, r3, r4⟩, f0, f1, f2, f3⟩ := id HR3.out
    go_wp2
    try simp only [Exit.inBlock, Exit.then]
    refine bodyPost_ret (v := .tuple #[.agg #[.int .i64 0, .slice none 0 0, .int .i64 0, .int .i64 0], .bool false]) (by simp [results, Try.results37, go_sem, *]) rfl ⟨tB0 0 0 0, rfl, VT.no, ?_⟩
    repeat (first | with_reducible exact hw | with_reducible refine bl_set ?_ (by dsimp only; omega) _)
  | some d =>
    have HTD : Hid (t.td = d) := HVT.out.td
    by_cases hk : t.t.k = 2
    · have z2 : (t.t.k != 2) = false := by simp [hk]
      have E : Hid (lenV (some d) = some ⟨3, [], t.t.len, 0⟩) := (show (if d.k = 2 then some (⟨3, [], d.bs.length, 0⟩ : TD) else none) = _ by
        rw [← HTD.out]
        show (if t.t.k = 2 then some (⟨3, [], t.b.length, 0⟩ : TD) else none) = _
        rw [if_pos hk, HVT.out.len])
      have hln : t.t.len ≤ 1048576 := HVT.out.bs.1.2.1
      clear hk
      obtain ⟨⟨r0, r1, r2, r3, r4⟩, f0, f1, f2, f3⟩ := id HR3.out
      go_wp2
      try simp only [Exit.inBlock, Exit.then]
      refine bodyPost_ret (v := .tuple #[.agg #[.int .i64 3, .slice none 0 0, .int .i64 t.t.len, .int .i64 0], .bool true]) (by simp [results, Try.results37, go_sem, *]) rfl ⟨tB0 3 t.t.len 0, by rw [E.out]; rfl, by rw [E.out]; exact VT.of rfl (by omega) (by omega) (by decide) (by decide), ?_⟩
      repeat (first | with_reducible exact hw | with_reducible refine bl_set ?_ (by dsimp only; omega) _)
    · have z2 : (t.t.k != 2) = true := by simp [hk]
      have E : Hid (lenV (some d) = none) := (show (if d.k = 2 then some (⟨3, [], d.bs.length, 0⟩ : TD) else none) = _ by
        rw [← HTD.out]
        show (if t.t.k = 2 then some (⟨3, [], t.b.length, 0⟩ : TD) else none) = _
        rw [if_neg hk])
      clear hk
      obtain ⟨⟨r0, r1, r2, r3, r4⟩, f0, f1, f2, f3⟩ := id HR3.out
      go_wp2
      try simp only [Exit.inBlock, Exit.then]
      refine bodyPost_ret (v := .tuple #[.agg #[.int .i64 0, .slice none 0 0, .int .i64 0, .int .i64 0], .bool false]) (by simp [results, Try.results37, go_sem, *]) rfl ⟨tB0 0 0 0, by rw [E.out]; rfl, by rw [E.out]; exact VT.no, ?_⟩
      repeat (first | with_reducible exact hw | with_reducible refine bl_set ?_ (by dsimp only; omega) _)
theorem firstV_none {n : Nat} {f : Nat → Option TD} (h : ∀ j, j < n → f j = none) : firstV n f = none := by
  induction n with
  | zero => rfl
  | succ n ih =>
    show (firstV n f).or (f n) = none
    rw [ih fun j hj => h j (by omega), h n (by omega)]
    rfl
theorem firstV_at {n k : Nat} {f : Nat → Option TD} (h : ∀ j, j < k → f j = none) (hk : k < n) (hs : (f k).isSome = true) : firstV n f = f k := by
  induction n with
  | zero => omega
  | succ n ih =>
    show (firstV n f).or (f n) = f k
    by_cases e : k = n
    · subst e
      rw [firstV_none h]
      rfl
    · rw [ih (by omega)]
      cases hf : f k with
      | none => rw [hf] at hs; cases hs
      | some d => rfl
set_option maxHeartbeats 4000000 in
theorem firstValue_of (x : VW) (a : Option Addr) (cap n : Nat) (kid : Nat → ET) (w0 w : World) (hn : n ≤ 1048576) (hR : KRow 0 w0 8 a n (fun i => (kid i).d.cells)) (hv : ∀ i, i < n → KV x w0 (kid i)) (hw : Below w0.heap.size w0 w) : Calls Try.prog 36 #[.agg #[.slice x.va x.vn x.vc, .slice x.s.a x.s.n x.s.cap], .slice a n cap] w (ValR w0 (firstV n (fun i => val x.C (kid i))) w) := by
  have HT := hid (VR.new w x 45 24)
  have HV : Hid (∀ i, i < n → ∀ W, Below w.heap.size w W → Calls Try.prog 13 #[.agg #[.slice x.va x.vn x.vc, .slice x.s.a x.s.n x.s.cap], .agg #[.int .i64 (kid i).d.k, .int .i64 (kid i).d.op, .slice (kid i).d.v.a (kid i).d.v.len (kid i).d.v.cap, .int .i64 (kid i).d.t.t.k, .slice (kid i).d.t.t.a (kid i).d.t.t.len (kid i).d.t.t.cap, .int .i64 (kid i).d.t.t.n, .int .i64 (kid i).d.t.t.s, .slice (kid i).d.ka (kid i).d.n (kid i).d.kc]] W (ValR w0 (val x.C (kid i)) W)) := fun i hi W h => hv i hi W (bl_trans hw h)
  have HR := hid hR
  have HW := hid hw
  obtain ⟨f, hf⟩ : ∃ f : Nat → Option TD, f = fun i => val x.C (kid i) := ⟨_, rfl⟩
  have HF : Hid (∀ i, val x.C (kid i) = f i) := fun i => by rw [hf]
  rw [← hf]
  clear hv hw hR hf
  go_in
  go_upto_region 1 with fail
  generalize ((w.alloc _).alloc _) = W1 at *
  go_wp2_with fail
  go_loopw [12] (fun i wr => ∃ k : Nat, k ≤ n ∧ i = .int .i64 k ∧ Hid (∀ j, j < k → f j = none) ∧ Hid (VR w wr x)) (fun i _ => n - (intOf i).toNat)
  case atStart => exact ⟨0, Nat.zero_le _, rfl, fun j hj => absurd hj (Nat.not_lt_zero _), HT⟩
  case round =>
    clear HT
    obtain ⟨k, hk, rfl, HNO, HT⟩ := hrel
    by_cases hlk : k < n
    rotate_left
    · have hlkz : ¬ (k : Int) < (n : Int) := by omega
      have E : Hid (firstV n f = none) := firstV_none fun j hj => HNO.out j (by omega)
      have hw := HT.out.bl
      obtain ⟨⟨r0, r1, r2, r3, r4⟩, f0, f1, f2, f3⟩ := id HT.out.r
      go_wp2
      try simp only [Exit.inBlock, Exit.then]
      refine bodyPost_ret (v := .tuple #[.agg #[.int .i64 0, .slice none 0 0, .int .i64 0, .int .i64 0], .bool false]) (by simp [results, Try.results36, go_sem, *]) rfl ⟨tB0 0 0 0, by rw [E.out]; rfl, by rw [E.out]; exact VT.no, ?_⟩
      repeat (first | with_reducible exact hw | with_reducible refine bl_set ?_ (by dsimp only; omega) _)
    have hlkz : (k : Int) < (n : Int) := by omega
    obtain ⟨b, off, rfl, _, hlt, hck⟩ := HR.out.resolve_left (by omega)
    have hcx : wr.rangeAt b (off + k * 8) [.int .i64 (kid k).d.k, .int .i64 (kid k).d.op, .slice (kid k).d.v.a (kid k).d.v.len (kid k).d.v.cap, .int .i64 (kid k).d.t.t.k, .slice (kid k).d.t.t.a (kid k).d.t.t.len (kid k).d.t.t.cap, .int .i64 (kid k).d.t.t.n, .int .i64 (kid k).d.t.t.s, .slice (kid k).d.ka (kid k).d.n (kid k).d.kc] := fun j v hv => ((bl_trans HW.out HT.out.bl).cell (p := ⟨b, off + k * 8 + j, none⟩) hlt).trans (hck k hlk j v hv)
    have st : (wr.alloc (.cells #[.int .i64 0, .int .i64 0, .slice none 0 0, .int .i64 0, .slice none 0 0, .int .i64 0, .int .i64 0, .slice none 0 0] 29)).there wr.heap.size 0 8 := (OB.new wr #[.int .i64 0, .int .i64 0, .slice none 0 0, .int .i64 0, .slice none 0 0, .int .i64 0, .int .i64 0, .slice none 0 0] 29).there 0 8 (by simp)
    have on : (#[.int .i64 (kid k).d.k, .int .i64 (kid k).d.op, .slice (kid k).d.v.a (kid k).d.v.len (kid k).d.v.cap, .int .i64 (kid k).d.t.t.k, .slice (kid k).d.t.t.a (kid k).d.t.t.len (kid k).d.t.t.cap, .int .i64 (kid k).d.t.t.n, .int .i64 (kid k).d.t.t.s, .slice (kid k).d.ka (kid k).d.n (kid k).d.kc] : Array Value).all (·.oneCell') = true := all_oneCell_toArray (cs := [.int .i64 (kid k).d.k, .int .i64 (kid k).d.op, .slice (kid k).d.v.a (kid k).d.v.len (kid k).d.v.cap, .int .i64 (kid k).d.t.t.k, .slice (kid k).d.t.t.a (kid k).d.t.t.len (kid k).d.t.t.cap, .int .i64 (kid k).d.t.t.n, .int .i64 (kid k).d.t.t.s, .slice (kid k).d.ka (kid k).d.n (kid k).d.kc]) (by simp [Value.oneCell'])
    have hrd : ((wr.alloc (.cells #[.int .i64 0, .int .i64 0, .slice none 0 0, .int .i64 0, .slice none 0 0, .int .i64 0, .int .i64 0, .slice none 0 0] 29)).setCells wr.heap.size 0 [.int .i64 (kid k).d.k, .int .i64 (kid k).d.op, .slice (kid k).d.v.a (kid k).d.v.len (kid k).d.v.cap, .int .i64 (kid k).d.t.t.k, .slice (kid k).d.t.t.a (kid k).d.t.t.len (kid k).d.t.t.cap, .int .i64 (kid k).d.t.t.n, .int .i64 (kid k).d.t.t.s, .slice (kid k).d.ka (kid k).d.n (kid k).d.kc]).rangeAt wr.heap.size 0 [.int .i64 (kid k).d.k, .int .i64 (kid k).d.op, .slice (kid k).d.v.a (kid k).d.v.len (kid k).d.v.cap, .int .i64 (kid k).d.t.t.k, .slice (kid k).d.t.t.a (kid k).d.t.t.len (kid k).d.t.t.cap, .int .i64 (kid k).d.t.t.n, .int .i64 (kid k).d.t.t.s, .slice (kid k).d.ka (kid k).d.n (kid k).d.kc] := World.rangeAt_setCells_same _ _ _ _ st
    have HB4 := hid (below_sets (w0 := wr) wr.heap.size (Nat.le_refl _) [.int .i64 (kid k).d.k, .int .i64 (kid k).d.op, .slice (kid k).d.v.a (kid k).d.v.len (kid k).d.v.cap, .int .i64 (kid k).d.t.t.k, .slice (kid k).d.t.t.a (kid k).d.t.t.len (kid k).d.t.t.cap, .int .i64 (kid k).d.t.t.n, .int .i64 (kid k).d.t.t.s, .slice (kid k).d.ka (kid k).d.n (kid k).d.kc] 0 (wr.alloc (.cells #[.int .i64 0, .int .i64 0, .slice none 0 0, .int .i64 0, .slice none 0 0, .int .i64 0, .int .i64 0, .slice none 0 0] 29)) (bl_a _))
    clear hck
    go_wp2_with (first | (with_reducible refine wpv_at ?_; refine wpList_load_mid rfl 29 _ rfl _ _ rfl [.int .i64 (kid k).d.k, .int .i64 (kid k).d.op, .slice (kid k).d.v.a (kid k).d.v.len (kid k).d.v.cap, .int .i64 (kid k).d.t.t.k, .slice (kid k).d.t.t.a (kid k).d.t.t.len (kid k).d.t.t.cap, .int .i64 (kid k).d.t.t.n, .int .i64 (kid k).d.t.t.s, .slice (kid k).d.ka (kid k).d.n (kid k).d.kc] _ hcx Try.underlying29 rfl (by kernel_rfl) ?_; try simp only [Act.put, List.setIfInBounds_toArray, List.set_cons_zero, List.set_cons_succ]) | (with_reducible refine wpv_at ?_; refine store_stopV 29 (.tmp 7) (.tmp 15) rfl ?_))
    change wpList _ _ _ _ _ _
    refine wpList_store_mid rfl 29 _ _ rfl wr.heap.size 0 #[.int .i64 (kid k).d.k, .int .i64 (kid k).d.op, .slice (kid k).d.v.a (kid k).d.v.len (kid k).d.v.cap, .int .i64 (kid k).d.t.t.k, .slice (kid k).d.t.t.a (kid k).d.t.t.len (kid k).d.t.t.cap, .int .i64 (kid k).d.t.t.n, .int .i64 (kid k).d.t.t.s, .slice (kid k).d.ka (kid k).d.n (kid k).d.kc] rfl rfl st (by kernel_rfl) on ?_
    try simp only [Act.put]
    generalize (wr.alloc (.cells #[.int .i64 0, .int .i64 0, .slice none 0 0, .int .i64 0, .slice none 0 0, .int .i64 0, .int .i64 0, .slice none 0 0] 29)).setCells wr.heap.size 0 [.int .i64 (kid k).d.k, .int .i64 (kid k).d.op, .slice (kid k).d.v.a (kid k).d.v.len (kid k).d.v.cap, .int .i64 (kid k).d.t.t.k, .slice (kid k).d.t.t.a (kid k).d.t.t.len (kid k).d.t.t.cap, .int .i64 (kid k).d.t.t.n, .int .i64 (kid k).d.t.t.s, .slice (kid k).d.ka (kid k).d.n (kid k).d.kc] = W4 at *
    have HT4 := hid (HT.out.below HB4.out)
    have lx : W4.rangeAt w.heap.size 0 [.slice x.va x.vn x.vc, .slice x.s.a x.s.n x.s.cap] := HT4.out.x.range 0 _ rfl
    clear st on hcx HB4 HT
    go_wp2_with (first | (with_reducible refine wpv_at ?_; refine wpList_load_mid rfl 45 _ rfl _ _ rfl [.slice x.va x.vn x.vc, .slice x.s.a x.s.n x.s.cap] _ lx Try.underlying45 rfl (by kernel_rfl) ?_; try simp only [Act.put, List.setIfInBounds_toArray, List.set_cons_zero, List.set_cons_succ]) | (with_reducible refine wpv_at ?_; refine wpList_load_mid rfl 29 _ rfl _ _ rfl [.int .i64 (kid k).d.k, .int .i64 (kid k).d.op, .slice (kid k).d.v.a (kid k).d.v.len (kid k).d.v.cap, .int .i64 (kid k).d.t.t.k, .slice (kid k).d.t.t.a (kid k).d.t.t.len (kid k).d.t.t.cap, .int .i64 (kid k).d.t.t.n, .int .i64 (kid k).d.t.t.s, .slice (kid k).d.ka (kid k).d.n (kid k).d.kc] _ hrd Try.underlying29 rfl (by kernel_rfl) ?_; try simp only [Act.put, List.setIfInBounds_toArray, List.set_cons_zero, List.set_cons_succ]))
    have HK := hid (HV.out k hlk W4 HT4.out.bl)
    rw [HF.out k] at HK
    refine HK.out.mono ?_
    rintro r w5 ⟨t, rfl, hV, hb5⟩
    have HT5 := hid (HT4.out.below hb5)
    have HVT := hid hV
    clear hV hb5 lx hrd HT4 HK
    go_upto_region 5 with fail
    have HT6 := hid (HT5.out.below (bl_a (w := w5) (.cells #[.int .i64 t.t.k, .slice t.t.a t.t.len t.t.cap, .int .i64 t.t.n, .int .i64 t.t.s] 24)))
    have HN6 := hid (At4.new w5 (.int .i64 t.t.k) (.slice t.t.a t.t.len t.t.cap) (.int .i64 t.t.n) (.int .i64 t.t.s) 24)
    generalize w5.alloc (.cells #[.int .i64 t.t.k, .slice t.t.a t.t.len t.t.cap, .int .i64 t.t.n, .int .i64 t.t.s] 24) = W6 at *
    obtain ⟨_, n0, n1, n2, n3⟩ := HN6.out
    clear HT5 HN6
    obtain ⟨q, hq⟩ : ∃ q, q = (f k).isSome := ⟨_, rfl⟩
    have HQ := hid hq
    rw [← hq]
    clear hq
    cases q with
    | true =>
      have E := hid (firstV_at HNO.out hlk HQ.out.symm)
      have hw := HT6.out.bl
      obtain ⟨⟨r0, r1, r2, r3, r4⟩, f0, f1, f2, f3⟩ := id HT6.out.r
      go_wp2
      try simp only [Exit.inBlock, Exit.then]
      refine bodyPost_ret (v := .tuple #[.agg #[.int .i64 t.t.k, .slice t.t.a t.t.len t.t.cap, .int .i64 t.t.n, .int .i64 t.t.s], .bool true]) (by simp [results, Try.results36, go_sem, *]) rfl ⟨t, by rw [E.out, ← HQ.out], by rw [E.out]; exact HVT.out, ?_⟩
      repeat (first | with_reducible exact hw | with_reducible refine bl_set ?_ (by dsimp only; omega) _)
    | false =>
      have HNK : Hid (f k = none) := (show _ = _ by have h := HQ.out; cases hf : f k with | none => rfl | some d => rw [hf] at h; cases h)
      go_wp2
      go_roundw
      case rel =>
        refine ⟨k + 1, by omega, by go_num, fun j hj => ?_, HT6⟩
        by_cases e : j = k
        · subst e
          exact HNK.out
        · exact HNO.out j (by omega)
      case measure => simp [intOf]; omega
end Go.Proofs.Ytidhcbjhggdncaa

/- TvG -/
namespace Go.Proofs.Ytidhcbjhggdncaa
open Go.RowKit Go.Deep
set_option maxRecDepth 100000

theorem tqB {P : Program} {md : Region.Mode} {ops : Array Oper} {Q : Exit → Act → World → Prop} {S : World → Prop} (i d : Nat) {oi : Oper} {v : Value} {fuel : Nat} {listed : Array Bool} {a a' : Act} {w : World}
    (h : wpAnyH P md ops Q S fuel (listed.setIfInBounds i true) a' w) (hS : S w := by assumption) (hi : ops[i]? = some oi := by rfl) (hd : oi.dst = some d := by rfl) (hk : (Region.noSelect ops && (Region.free md ops listed i && (Region.ready md ops listed).contains i)) = true := by kernel_rfl)
    (hQ : ∀ c a w, Q (.panic c) (a.put (some d) v) w → Q (.panic c) a w := by exact fun _ _ _ h => h) (hg : Region.wanted oi (yielded ops a.tmps) = true := by rfl) (hy : ∀ w, S w → (execOp a.eval oi).run P w = .ok (.value v) w := by intro w' hSw; go_simp; (try with_reducible rfl)) (ha : a.put (some d) v = a' := by (try simp only [Act.put, List.setIfInBounds_toArray, List.set_cons_zero, List.set_cons_succ]); rfl) : wpAnyH P md ops Q S (fuel + 1) listed a w := by
  simp only [Bool.and_eq_true] at hk
  exact takeq d hi hd hk.1 hk.2.1 hk.2.2 hQ (Or.inl ⟨hg, hy⟩) hS (ha ▸ h)
theorem ldq {P : Program} {md : Region.Mode} {ops : Array Oper} {Q : Exit → Act → World → Prop} {S : World → Prop} (i d : Nat) {oi : Oper} {fuel : Nat} {listed : Array Bool} {a a' : Act} {w : World} {ty : TypeId} {x : Operand} {b o : Nat} {cs : List Value} {dd : TypeDesc}
    (hu : P.underlying ty = some dd) (hc : ∀ w, S w → w.rangeAt b o cs) (h : wpAnyH P md ops Q S fuel (listed.setIfInBounds i true) a' w) (hS : S w := by assumption) (hi : ops[i]? = some oi := by rfl) (hd : oi.dst = some d := by rfl) (ho : oi.op = .load ty x := by rfl) (hx : a.eval x = .pointer (some ⟨b, o, none⟩) := by rfl) (hr : dd.isRow = true := by rfl) (hsz : (P.info? ty).map (·.size) = some cs.length := by kernel_rfl) (hk : (Region.noSelect ops && (Region.free md ops listed i && (Region.ready md ops listed).contains i)) = true := by kernel_rfl)
    (hQ : ∀ c a w, Q (.panic c) (a.put (some d) (.agg cs.toArray)) w → Q (.panic c) a w := by exact fun _ _ _ h => h) (hg : Region.wanted oi (yielded ops a.tmps) = true := by rfl) (ha : a.put (some d) (.agg cs.toArray) = a' := by (try simp only [Act.put, List.setIfInBounds_toArray, List.set_cons_zero, List.set_cons_succ]); rfl) : wpAnyH P md ops Q S (fuel + 1) listed a w := by
  simp only [Bool.and_eq_true] at hk
  exact takeq d hi hd hk.1 hk.2.1 hk.2.2 hQ (yieldsIf_load_mid hg ty x ho b o hx cs dd hc hu hr hsz) hS (ha ▸ h)
theorem rqA {P : Program} {md : Region.Mode} {ops : Array Oper} {Q : Exit → Act → World → Prop} {S : World → Prop} (i : Nat) {o : Oper} {fuel : Nat} {listed : Array Bool} {a : Act} {w : World}
    (h : ∀ K' : Act → World → Prop, Shut (∀ a w, S w → (S w → wpAnyH P md ops Q S fuel (listed.setIfInBounds i true) a w) → K' a w) → if Region.wanted o (yielded ops a.tmps) = true then Oper.wp P o a w K' Q else K' (a.put o.dst undef) w)
    (hr : Region.ready md ops listed = [i] := by kernel_rfl) (ho : ops[i]? = some o := by rfl) : wpAnyH P md ops Q S (fuel + 1) listed a w := wpAnyH_ready hr (by simp) (AllReadyH.cons ho h AllReadyH.nil)
theorem wqd {P : Program} {ops : Array Oper} {Q : Exit → Act → World → Prop} (S : World → Prop) {id : Nat} {a : Act} {w : World} (hS : S w.drew) (h : S w.drew → wpAnyH P .any ops Q S ops.size (Array.replicate ops.size false) a w.drew) (hm : P.follows .mixedOrders = true := by kernel_rfl) : (Code.region id ops true).wp P Q a w := wp_region_held_drew hm hS h
theorem step_storeV {ops : Array Oper} {op : Oper} {a : Act} {w : World} {K : Act → World → Prop} {Q : Exit → Act → World → Prop} {E : Prop} (ty : TypeId) (b o : Nat) (cells : Array Value) (ht : w.there b o cells.size) (h1 : cells.all (·.oneCell') = true) {x y : Operand}
    (h : K (a.put op.dst undef) (w.setCells b o cells.toList)) (hgd : op.guard = none := by rfl) (ho : op.op = .store ty x y := by rfl) (hx : a.eval x = .pointer (some ⟨b, o, none⟩) := by rfl) (hy : a.eval y = .agg cells := by rfl) (hi : (Try.prog.info? ty).map (·.size) = some cells.size := by kernel_rfl) : if Region.wanted op (yielded ops a.tmps) = true then Oper.wp Try.prog op a w K Q else E := by
  have hw : Region.wanted op (yielded ops a.tmps) = true := by simp [Region.wanted, hgd]
  rw [if_pos hw]
  exact wp_store_mid ty x y ho b o cells hx hy ht hi h1 h
theorem results_cell2 {P : Program} {fn : Func} {tmps : Array Value} {w : World} {a b : Nat} {t : TypeId} {ad : Addr} {v u : Value} (hf : fn.results = #[.cell a t, .tmp b]) (ht : tmps.getD a undef = .pointer (some ad)) (hq : tmps.getD b undef = u) (hl : (loadVar t ad).run P w = .ok v w) : (results fn tmps).run P w = .ok (.tuple #[v, u]) w := by
  have h2 : tmps[a]?.getD undef = .pointer (some ad) := by simpa using ht
  have h3 : tmps[b]?.getD undef = u := by simpa using hq
  simp [results, hf, h2, h3, asAddr, hl]
theorem Own4.there {w : World} {b : Nat} {v0 v1 v2 v3 : Value} (h : Own4 w b v0 v1 v2 v3) : w.there b 0 4 := fun j hj => by
  obtain ⟨⟨_, h0, h1, h2, h3⟩, f0, f1, f2, f3⟩ := h
  have hj' : j = 0 ∨ j = 1 ∨ j = 2 ∨ j = 3 := by omega
  rw [Nat.zero_add]
  rcases hj' with rfl | rfl | rfl | rfl
  · exact ⟨by rw [h0]; rfl, f0⟩
  · exact ⟨by rw [h1]; rfl, f1⟩
  · exact ⟨by rw [h2]; rfl, f2⟩
  · exact ⟨by rw [h3]; rfl, f3⟩
theorem VR.sets {w W : World} {x : VW} (h : VR w W x) (vs : List Value) : Below w.heap.size w (W.setCells (w.heap.size + 1) 0 vs) ∧ Box (W.setCells (w.heap.size + 1) 0 vs) w.heap.size [.slice x.va x.vn x.vc, .slice x.s.a x.s.n x.s.cap] :=
  ⟨below_sets (w0 := w) _ (by omega) _ _ _ h.bl, h.x.upper (but_sets _ _ _ _) (by omega)⟩
set_option maxHeartbeats 4000000 in
theorem choice_of (x : VW) (b off cap : Nat) (kid : Nat → ET) (w0 w : World) (hb : b < w0.heap.size) (hR : ∀ i, i < 3 → ∀ c u, (kid i).d.cells[c]? = some u → w0.cell? ⟨b, off + i * 8 + c, none⟩ = some u) (hv : ∀ i, i < 3 → KV x w0 (kid i)) (hw : Below w0.heap.size w0 w) :
    Calls Try.prog 35 #[.agg #[.slice x.va x.vn x.vc, .slice x.s.a x.s.n x.s.cap], .slice (some ⟨b, off, none⟩) 3 cap] w (ValR w0 (ifV (tru (val x.C (kid 0))) (val x.C (kid 1)) (val x.C (kid 2))) w) := by
  have HT := hid (VR.new w x 45 24)
  have HU := hid (fun W (h : Below w.heap.size w W) => truth_of x (kid 0) w0 W (hv 0 (by omega)) (bl_trans hw h))
  have HV1 := hid (fun W (h : Below w.heap.size w W) => hv 1 (by omega) W (bl_trans hw h))
  have HV2 := hid (fun W (h : Below w.heap.size w W) => hv 2 (by omega) W (bl_trans hw h))
  have HR : Hid (∀ i, i < 3 → ∀ W, Below w.heap.size w W → W.rangeAt b (off + i * 8) [.int .i64 (kid i).d.k, .int .i64 (kid i).d.op, .slice (kid i).d.v.a (kid i).d.v.len (kid i).d.v.cap, .int .i64 (kid i).d.t.t.k, .slice (kid i).d.t.t.a (kid i).d.t.t.len (kid i).d.t.t.cap, .int .i64 (kid i).d.t.t.n, .int .i64 (kid i).d.t.t.s, .slice (kid i).d.ka (kid i).d.n (kid i).d.kc]) := fun i hi W h j v hv => ((bl_trans hw h).cell (p := ⟨b, off + i * 8 + j, none⟩) hb).trans (hR i hi j v hv)
  have HTR := hid (tru_range (val x.C (kid 0)))
  obtain ⟨o1, ho1⟩ : ∃ o, o = val x.C (kid 1) := ⟨_, rfl⟩
  obtain ⟨o2, ho2⟩ : ∃ o, o = val x.C (kid 2) := ⟨_, rfl⟩
  obtain ⟨c, hcc⟩ : ∃ c, c = tru (val x.C (kid 0)) := ⟨_, rfl⟩
  rw [← ho1] at HV1
  rw [← ho2] at HV2
  rw [← hcc] at HU HTR
  rw [← ho1, ← ho2, ← hcc]
  clear hv hw hR hb ho1 ho2 hcc
  go_in
  go_upto_region 1 with fail
  generalize ((w.alloc _).alloc _) = W1 at *
  go_wp2_with fail
  refine wqd (fun w' => Below w.heap.size w w' ∧ Box w' w.heap.size [.slice x.va x.vn x.vc, .slice x.s.a x.s.n x.s.cap]) ?_ fun hHeld => ?_
  · exact ⟨Below.drew HT.out.bl, (HT.out.below (Below.drew (Below.refl _ _))).x⟩
  refine ldq 0 6 Try.underlying45 (fun w' h => h.2.range 0 [.slice x.va x.vn x.vc, .slice x.s.a x.s.n x.s.cap] rfl) ?_
  refine tqB 1 7 ?_
  refine tqB 2 8 ?_
  refine ldq 3 9 Try.underlying29 (fun w' h => HR.out 0 (by omega) w' h.1) ?_
  refine rqA 4 fun K hK => ?_
  go_simp
  refine (HU.out _ hHeld.1).mono ?_
  rintro r w2 ⟨rfl, hb2⟩
  have HT2 := hid ((HT.out.below (Below.drew (Below.refl _ _))).below hb2)
  clear hHeld hb2 HT HU
  go_wp2_with fail
  refine hK.out _ _ ?_ (fun hHeld => ?_)
  · exact ⟨HT2.out.bl, HT2.out.x⟩
  clear hK K hHeld
  try simp only [Act.put, List.setIfInBounds_toArray, List.set_cons_zero, List.set_cons_succ]
  refine wpAnyH_done (by kernel_rfl) ?_ _
  rcases HTR.out with rfl | rfl | rfl
  · have E : Hid (ifV 0 o1 o2 = o2) := (show _ = _ from rfl)
    go_wp2_with fail
    refine wqd (fun w' => Below w.heap.size w w' ∧ Box w' w.heap.size [.slice x.va x.vn x.vc, .slice x.s.a x.s.n x.s.cap]) ?_ fun hHeld => ?_
    · exact ⟨Below.drew HT2.out.bl, (HT2.out.below (Below.drew (Below.refl _ _))).x⟩
    refine ldq 0 22 Try.underlying45 (fun w' h => h.2.range 0 [.slice x.va x.vn x.vc, .slice x.s.a x.s.n x.s.cap] rfl) ?_
    refine tqB 1 23 ?_
    refine tqB 2 24 ?_
    refine ldq 3 25 Try.underlying29 (fun w' h => HR.out 2 (by omega) w' h.1) ?_
    refine rqA 4 fun K hK => ?_
    go_simp
    refine (HV2.out _ hHeld.1).mono ?_
    rintro r w3 ⟨t, rfl, hV, hb3⟩
    have HT3 := hid ((HT2.out.below (Below.drew (Below.refl _ _))).below hb3)
    have HVT := hid hV
    obtain ⟨q, hq⟩ : ∃ q, q = o2.isSome := ⟨_, rfl⟩
    rw [← hq]
    have HQ := hid hq
    clear hHeld hb3 HT2 HV1 HV2 hV hq
    go_wp2_with fail
    refine hK.out _ _ ?_ (fun hHeld => ?_)
    · exact ⟨HT3.out.bl, HT3.out.x⟩
    clear hK K
    try simp only [Act.put, List.setIfInBounds_toArray, List.set_cons_zero, List.set_cons_succ]
    refine tqB 5 27 ?_
    refine tqB 6 28 ?_
    have st : w3.there (w.heap.size + 1) 0 4 := HT3.out.r.there
    have on : (#[.int .i64 t.t.k, .slice t.t.a t.t.len t.t.cap, .int .i64 t.t.n, .int .i64 t.t.s] : Array Value).all (·.oneCell') = true := all_oneCell_toArray (cs := [.int .i64 t.t.k, .slice t.t.a t.t.len t.t.cap, .int .i64 t.t.n, .int .i64 t.t.s]) (by simp [Value.oneCell'])
    have hrd : (w3.setCells (w.heap.size + 1) 0 [.int .i64 t.t.k, .slice t.t.a t.t.len t.t.cap, .int .i64 t.t.n, .int .i64 t.t.s]).rangeAt (w.heap.size + 1) 0 [.int .i64 t.t.k, .slice t.t.a t.t.len t.t.cap, .int .i64 t.t.n, .int .i64 t.t.s] := World.rangeAt_setCells_same _ _ _ _ st
    have hbf := hid (HT3.out.sets [.int .i64 t.t.k, .slice t.t.a t.t.len t.t.cap, .int .i64 t.t.n, .int .i64 t.t.s])
    refine rqA 7 fun K hK => ?_
    refine step_storeV 24 (w.heap.size + 1) 0 #[.int .i64 t.t.k, .slice t.t.a t.t.len t.t.cap, .int .i64 t.t.n, .int .i64 t.t.s] st on ?_
    refine hK.out _ _ ?_ (fun hHeld => ?_)
    · exact hbf.out
    clear hK K st on
    try simp only [Act.put]
    refine tqB 8 5 ?_
    clear hHeld
    generalize w3.setCells (w.heap.size + 1) 0 [.int .i64 t.t.k, .slice t.t.a t.t.len t.t.cap, .int .i64 t.t.n, .int .i64 t.t.s] = W4 at *
    refine wpAnyH_done (by kernel_rfl) ?_ _
    go_wp2
    try simp only [Exit.inBlock, Exit.then]
    refine bodyPost_ret (v := .tuple #[.agg #[.int .i64 t.t.k, .slice t.t.a t.t.len t.t.cap, .int .i64 t.t.n, .int .i64 t.t.s], .bool q]) ?hr5 rfl ?hp5
    case hr5 => exact results_cell2 rfl rfl rfl (run_loadVar_mid (P := Try.prog) _ (w.heap.size + 1) 0 24 [.int .i64 t.t.k, .slice t.t.a t.t.len t.t.cap, .int .i64 t.t.n, .int .i64 t.t.s] _ hrd Try.underlying24 rfl (by kernel_rfl))
    exact ⟨t, by rw [E.out, HQ.out], by rw [E.out]; exact HVT.out, hbf.out.1⟩
  · have E : Hid (ifV 1 o1 o2 = none) := (show _ = _ from rfl)
    have hw := HT2.out.bl
    obtain ⟨⟨r0, r1, r2, r3, r4⟩, f0, f1, f2, f3⟩ := id HT2.out.r
    go_wp2
    try simp only [Exit.inBlock, Exit.then]
    refine bodyPost_ret (v := .tuple #[.agg #[.int .i64 0, .slice none 0 0, .int .i64 0, .int .i64 0], .bool false]) (by simp [results, Try.results35, go_sem, *]) rfl ⟨tB0 0 0 0, by rw [E.out]; rfl, by rw [E.out]; exact VT.no, ?_⟩
    repeat (first | with_reducible exact hw | with_reducible refine bl_set ?_ (by dsimp only; omega) _)
  · have E : Hid (ifV 2 o1 o2 = o1) := (show _ = _ from rfl)
    go_wp2_with fail
    refine wqd (fun w' => Below w.heap.size w w' ∧ Box w' w.heap.size [.slice x.va x.vn x.vc, .slice x.s.a x.s.n x.s.cap]) ?_ fun hHeld => ?_
    · exact ⟨Below.drew HT2.out.bl, (HT2.out.below (Below.drew (Below.refl _ _))).x⟩
    refine ldq 0 13 Try.underlying45 (fun w' h => h.2.range 0 [.slice x.va x.vn x.vc, .slice x.s.a x.s.n x.s.cap] rfl) ?_
    refine tqB 1 14 ?_
    refine tqB 2 15 ?_
    refine ldq 3 16 Try.underlying29 (fun w' h => HR.out 1 (by omega) w' h.1) ?_
    refine rqA 4 fun K hK => ?_
    go_simp
    refine (HV1.out _ hHeld.1).mono ?_
    rintro r w3 ⟨t, rfl, hV, hb3⟩
    have HT3 := hid ((HT2.out.below (Below.drew (Below.refl _ _))).below hb3)
    have HVT := hid hV
    obtain ⟨q, hq⟩ : ∃ q, q = o1.isSome := ⟨_, rfl⟩
    rw [← hq]
    have HQ := hid hq
    clear hHeld hb3 HT2 HV1 HV2 hV hq
    go_wp2_with fail
    refine hK.out _ _ ?_ (fun hHeld => ?_)
    · exact ⟨HT3.out.bl, HT3.out.x⟩
    clear hK K
    try simp only [Act.put, List.setIfInBounds_toArray, List.set_cons_zero, List.set_cons_succ]
    refine tqB 5 18 ?_
    refine tqB 6 19 ?_
    have st : w3.there (w.heap.size + 1) 0 4 := HT3.out.r.there
    have on : (#[.int .i64 t.t.k, .slice t.t.a t.t.len t.t.cap, .int .i64 t.t.n, .int .i64 t.t.s] : Array Value).all (·.oneCell') = true := all_oneCell_toArray (cs := [.int .i64 t.t.k, .slice t.t.a t.t.len t.t.cap, .int .i64 t.t.n, .int .i64 t.t.s]) (by simp [Value.oneCell'])
    have hrd : (w3.setCells (w.heap.size + 1) 0 [.int .i64 t.t.k, .slice t.t.a t.t.len t.t.cap, .int .i64 t.t.n, .int .i64 t.t.s]).rangeAt (w.heap.size + 1) 0 [.int .i64 t.t.k, .slice t.t.a t.t.len t.t.cap, .int .i64 t.t.n, .int .i64 t.t.s] := World.rangeAt_setCells_same _ _ _ _ st
    have hbf := hid (HT3.out.sets [.int .i64 t.t.k, .slice t.t.a t.t.len t.t.cap, .int .i64 t.t.n, .int .i64 t.t.s])
    refine rqA 7 fun K hK => ?_
    refine step_storeV 24 (w.heap.size + 1) 0 #[.int .i64 t.t.k, .slice t.t.a t.t.len t.t.cap, .int .i64 t.t.n, .int .i64 t.t.s] st on ?_
    refine hK.out _ _ ?_ (fun hHeld => ?_)
    · exact hbf.out
    clear hK K st on
    try simp only [Act.put]
    refine tqB 8 5 ?_
    clear hHeld
    generalize w3.setCells (w.heap.size + 1) 0 [.int .i64 t.t.k, .slice t.t.a t.t.len t.t.cap, .int .i64 t.t.n, .int .i64 t.t.s] = W4 at *
    refine wpAnyH_done (by kernel_rfl) ?_ _
    go_wp2
    try simp only [Exit.inBlock, Exit.then]
    refine bodyPost_ret (v := .tuple #[.agg #[.int .i64 t.t.k, .slice t.t.a t.t.len t.t.cap, .int .i64 t.t.n, .int .i64 t.t.s], .bool q]) ?hr3 rfl ?hp3
    case hr3 => exact results_cell2 rfl rfl rfl (run_loadVar_mid (P := Try.prog) _ (w.heap.size + 1) 0 24 [.int .i64 t.t.k, .slice t.t.a t.t.len t.t.cap, .int .i64 t.t.n, .int .i64 t.t.s] _ hrd Try.underlying24 rfl (by kernel_rfl))
    exact ⟨t, by rw [E.out, HQ.out], by rw [E.out]; exact HVT.out, hbf.out.1⟩
end Go.Proofs.Ytidhcbjhggdncaa

/- TvH -/
namespace Go.Proofs.Ytidhcbjhggdncaa
open Go.RowKit Go.Deep
set_option maxRecDepth 100000

set_option maxHeartbeats 4000000 in
theorem operation_and (x : VW) (b off cap : Nat) (kid : Nat → ET) (w0 w : World) (hb : b < w0.heap.size) (hR : ∀ i, i < 2 → ∀ c u, (kid i).d.cells[c]? = some u → w0.cell? ⟨b, off + i * 8 + c, none⟩ = some u) (hv : ∀ i, i < 2 → KV x w0 (kid i)) (hw : Below w0.heap.size w0 w) :
    Calls Try.prog 38 #[.agg #[.slice x.va x.vn x.vc, .slice x.s.a x.s.n x.s.cap], .int .i64 6, .slice (some ⟨b, off, none⟩) 2 cap] w (ValR w0 (opV 6 (val x.C (kid 0)) (val x.C (kid 1))) w) := by
  have HT := hid (VR.new w x 45 24)
  have HU0 := hid (fun W (h : Below w.heap.size w W) => truth_of x (kid 0) w0 W (hv 0 (by omega)) (bl_trans hw h))
  have HU1 := hid (fun W (h : Below w.heap.size w W) => truth_of x (kid 1) w0 W (hv 1 (by omega)) (bl_trans hw h))
  have HR : Hid (∀ i, i < 2 → ∀ W, Below w.heap.size w W → W.rangeAt b (off + i * 8) [.int .i64 (kid i).d.k, .int .i64 (kid i).d.op, .slice (kid i).d.v.a (kid i).d.v.len (kid i).d.v.cap, .int .i64 (kid i).d.t.t.k, .slice (kid i).d.t.t.a (kid i).d.t.t.len (kid i).d.t.t.cap, .int .i64 (kid i).d.t.t.n, .int .i64 (kid i).d.t.t.s, .slice (kid i).d.ka (kid i).d.n (kid i).d.kc]) := fun i hi W h j v hv => ((bl_trans hw h).cell (p := ⟨b, off + i * 8 + j, none⟩) hb).trans (hR i hi j v hv)
  have HR0 := hid (tru_range (val x.C (kid 0)))
  have HR1 := hid (tru_range (val x.C (kid 1)))
  obtain ⟨c0, hc0⟩ : ∃ c, c = tru (val x.C (kid 0)) := ⟨_, rfl⟩
  obtain ⟨c1, hc1⟩ : ∃ c, c = tru (val x.C (kid 1)) := ⟨_, rfl⟩
  obtain ⟨m, hme⟩ : ∃ m, m = (if c1 < c0 then c1 else c0) := ⟨_, rfl⟩
  have HME : Hid ((if c1 < c0 then c1 else c0) = m) := hme.symm
  have E : Hid (opV 6 (val x.C (kid 0)) (val x.C (kid 1)) = ans m) := (show _ = _ by
    rw [hme, hc0, hc1]
    show ans (min _ _) = _
    congr 1
    split <;> omega)
  rw [← hc0] at HU0 HR0
  rw [← hc1] at HU1 HR1
  have hm : m = 0 ∨ m = 1 ∨ m = 2 := by
    rw [hme]
    rcases HR0.out with rfl | rfl | rfl <;> rcases HR1.out with rfl | rfl | rfl <;> decide
  have HTT := hid (fun W => truthTerm_any m w0 W hm)
  clear hv hw hR hb hc0 hc1 hm HR0 HR1 hme
  go_in
  go_upto_region 1 with fail
  generalize ((w.alloc _).alloc _) = W1 at *
  go_wp2_with fail
  refine wqd (fun w' => Below w.heap.size w w' ∧ Box w' w.heap.size [.slice x.va x.vn x.vc, .slice x.s.a x.s.n x.s.cap]) ?_ fun hHeld => ?_
  · exact ⟨Below.drew HT.out.bl, (HT.out.below (Below.drew (Below.refl _ _))).x⟩
  refine ldq 0 15 Try.underlying45 (fun w' h => h.2.range 0 [.slice x.va x.vn x.vc, .slice x.s.a x.s.n x.s.cap] rfl) ?_
  refine tqB 1 16 ?_
  refine tqB 2 17 ?_
  refine ldq 3 18 Try.underlying29 (fun w' h => HR.out 0 (by omega) w' h.1) ?_
  refine ldq 5 20 Try.underlying45 (fun w' h => h.2.range 0 [.slice x.va x.vn x.vc, .slice x.s.a x.s.n x.s.cap] rfl) ?_
  refine tqB 6 21 ?_
  refine tqB 7 22 ?_
  refine ldq 8 23 Try.underlying29 (fun w' h => HR.out 1 (by omega) w' h.1) ?_
  refine rqA 4 fun K hK => ?_
  go_simp
  refine (HU0.out _ hHeld.1).mono ?_
  rintro r w2 ⟨rfl, hb2⟩
  have HT2 := hid ((HT.out.below (Below.drew (Below.refl _ _))).below hb2)
  clear hHeld hb2 HT HU0
  go_wp2_with fail
  refine hK.out _ _ ?_ (fun hHeld => ?_)
  · exact ⟨HT2.out.bl, HT2.out.x⟩
  clear hK K
  try simp only [Act.put, List.setIfInBounds_toArray, List.set_cons_zero, List.set_cons_succ]
  refine rqA 9 fun K hK => ?_
  go_simp
  refine (HU1.out _ hHeld.1).mono ?_
  rintro r w3 ⟨rfl, hb3⟩
  have HT3 := hid (HT2.out.below hb3)
  clear hHeld hb3 HT2 HU1
  go_wp2_with fail
  refine hK.out _ _ ?_ (fun hHeld => ?_)
  · exact ⟨HT3.out.bl, HT3.out.x⟩
  clear hK K
  try simp only [Act.put, List.setIfInBounds_toArray, List.set_cons_zero, List.set_cons_succ]
  refine tqB 10 25 (v := .int .i64 m) (hy := by intro w' hSw; go_simp; exact HME.out) ?_
  refine rqA 11 fun K hK => ?_
  go_simp
  refine (HTT.out _).mono ?_
  rintro r w4 ⟨t, rfl, hV, hb4⟩
  have HT4 := hid (HT3.out.below hb4)
  have HVT := hid hV
  obtain ⟨q, hq⟩ : ∃ q, q = (ans m).isSome := ⟨_, rfl⟩
  rw [← hq]
  have HQ := hid hq
  clear hHeld hb4 HT3 HTT hV hq
  go_wp2_with fail
  refine hK.out _ _ ?_ (fun hHeld => ?_)
  · exact ⟨HT4.out.bl, HT4.out.x⟩
  clear hK K
  try simp only [Act.put, List.setIfInBounds_toArray, List.set_cons_zero, List.set_cons_succ]
  refine tqB 12 27 ?_
  refine tqB 13 28 ?_
  have st : w4.there (w.heap.size + 1) 0 4 := HT4.out.r.there
  have on : (#[.int .i64 t.t.k, .slice t.t.a t.t.len t.t.cap, .int .i64 t.t.n, .int .i64 t.t.s] : Array Value).all (·.oneCell') = true := all_oneCell_toArray (cs := [.int .i64 t.t.k, .slice t.t.a t.t.len t.t.cap, .int .i64 t.t.n, .int .i64 t.t.s]) (by simp [Value.oneCell'])
  have hrd : (w4.setCells (w.heap.size + 1) 0 [.int .i64 t.t.k, .slice t.t.a t.t.len t.t.cap, .int .i64 t.t.n, .int .i64 t.t.s]).rangeAt (w.heap.size + 1) 0 [.int .i64 t.t.k, .slice t.t.a t.t.len t.t.cap, .int .i64 t.t.n, .int .i64 t.t.s] := World.rangeAt_setCells_same _ _ _ _ st
  have hbf := hid (HT4.out.sets [.int .i64 t.t.k, .slice t.t.a t.t.len t.t.cap, .int .i64 t.t.n, .int .i64 t.t.s])
  refine rqA 14 fun K hK => ?_
  refine step_storeV 24 (w.heap.size + 1) 0 #[.int .i64 t.t.k, .slice t.t.a t.t.len t.t.cap, .int .i64 t.t.n, .int .i64 t.t.s] st on ?_
  refine hK.out _ _ ?_ (fun hHeld => ?_)
  · exact hbf.out
  clear hK K st on
  try simp only [Act.put]
  refine tqB 15 7 ?_
  clear hHeld
  generalize w4.setCells (w.heap.size + 1) 0 [.int .i64 t.t.k, .slice t.t.a t.t.len t.t.cap, .int .i64 t.t.n, .int .i64 t.t.s] = W5 at *
  refine wpAnyH_done (by kernel_rfl) ?_ _
  go_wp2
  try simp only [Exit.inBlock, Exit.then]
  refine bodyPost_ret (v := .tuple #[.agg #[.int .i64 t.t.k, .slice t.t.a t.t.len t.t.cap, .int .i64 t.t.n, .int .i64 t.t.s], .bool q]) ?hrand rfl ?hpand
  case hrand => exact results_cell2 rfl rfl rfl (run_loadVar_mid (P := Try.prog) _ (w.heap.size + 1) 0 24 [.int .i64 t.t.k, .slice t.t.a t.t.len t.t.cap, .int .i64 t.t.n, .int .i64 t.t.s] _ hrd Try.underlying24 rfl (by kernel_rfl))
  exact ⟨t, by rw [E.out, HQ.out], by rw [E.out]; exact HVT.out, hbf.out.1⟩
set_option maxHeartbeats 4000000 in
theorem operation_or (x : VW) (b off cap : Nat) (kid : Nat → ET) (w0 w : World) (hb : b < w0.heap.size) (hR : ∀ i, i < 2 → ∀ c u, (kid i).d.cells[c]? = some u → w0.cell? ⟨b, off + i * 8 + c, none⟩ = some u) (hv : ∀ i, i < 2 → KV x w0 (kid i)) (hw : Below w0.heap.size w0 w) :
    Calls Try.prog 38 #[.agg #[.slice x.va x.vn x.vc, .slice x.s.a x.s.n x.s.cap], .int .i64 7, .slice (some ⟨b, off, none⟩) 2 cap] w (ValR w0 (opV 7 (val x.C (kid 0)) (val x.C (kid 1))) w) := by
  have HT := hid (VR.new w x 45 24)
  have HU0 := hid (fun W (h : Below w.heap.size w W) => truth_of x (kid 0) w0 W (hv 0 (by omega)) (bl_trans hw h))
  have HU1 := hid (fun W (h : Below w.heap.size w W) => truth_of x (kid 1) w0 W (hv 1 (by omega)) (bl_trans hw h))
  have HR : Hid (∀ i, i < 2 → ∀ W, Below w.heap.size w W → W.rangeAt b (off + i * 8) [.int .i64 (kid i).d.k, .int .i64 (kid i).d.op, .slice (kid i).d.v.a (kid i).d.v.len (kid i).d.v.cap, .int .i64 (kid i).d.t.t.k, .slice (kid i).d.t.t.a (kid i).d.t.t.len (kid i).d.t.t.cap, .int .i64 (kid i).d.t.t.n, .int .i64 (kid i).d.t.t.s, .slice (kid i).d.ka (kid i).d.n (kid i).d.kc]) := fun i hi W h j v hv => ((bl_trans hw h).cell (p := ⟨b, off + i * 8 + j, none⟩) hb).trans (hR i hi j v hv)
  have HR0 := hid (tru_range (val x.C (kid 0)))
  have HR1 := hid (tru_range (val x.C (kid 1)))
  obtain ⟨c0, hc0⟩ : ∃ c, c = tru (val x.C (kid 0)) := ⟨_, rfl⟩
  obtain ⟨c1, hc1⟩ : ∃ c, c = tru (val x.C (kid 1)) := ⟨_, rfl⟩
  obtain ⟨m, hme⟩ : ∃ m, m = (if c0 < c1 then c1 else c0) := ⟨_, rfl⟩
  have HME : Hid ((if c0 < c1 then c1 else c0) = m) := hme.symm
  have E : Hid (opV 7 (val x.C (kid 0)) (val x.C (kid 1)) = ans m) := (show _ = _ by
    rw [hme, hc0, hc1]
    show ans (max _ _) = _
    congr 1
    split <;> omega)
  rw [← hc0] at HU0 HR0
  rw [← hc1] at HU1 HR1
  have hm : m = 0 ∨ m = 1 ∨ m = 2 := by
    rw [hme]
    rcases HR0.out with rfl | rfl | rfl <;> rcases HR1.out with rfl | rfl | rfl <;> decide
  have HTT := hid (fun W => truthTerm_any m w0 W hm)
  clear hv hw hR hb hc0 hc1 hm HR0 HR1 hme
  go_in
  go_upto_region 1 with fail
  generalize ((w.alloc _).alloc _) = W1 at *
  go_wp2_with fail
  refine wqd (fun w' => Below w.heap.size w w' ∧ Box w' w.heap.size [.slice x.va x.vn x.vc, .slice x.s.a x.s.n x.s.cap]) ?_ fun hHeld => ?_
  · exact ⟨Below.drew HT.out.bl, (HT.out.below (Below.drew (Below.refl _ _))).x⟩
  refine ldq 0 31 Try.underlying45 (fun w' h => h.2.range 0 [.slice x.va x.vn x.vc, .slice x.s.a x.s.n x.s.cap] rfl) ?_
  refine tqB 1 32 ?_
  refine tqB 2 33 ?_
  refine ldq 3 34 Try.underlying29 (fun w' h => HR.out 0 (by omega) w' h.1) ?_
  refine ldq 5 36 Try.underlying45 (fun w' h => h.2.range 0 [.slice x.va x.vn x.vc, .slice x.s.a x.s.n x.s.cap] rfl) ?_
  refine tqB 6 37 ?_
  refine tqB 7 38 ?_
  refine ldq 8 39 Try.underlying29 (fun w' h => HR.out 1 (by omega) w' h.1) ?_
  refine rqA 4 fun K hK => ?_
  go_simp
  refine (HU0.out _ hHeld.1).mono ?_
  rintro r w2 ⟨rfl, hb2⟩
  have HT2 := hid ((HT.out.below (Below.drew (Below.refl _ _))).below hb2)
  clear hHeld hb2 HT HU0
  go_wp2_with fail
  refine hK.out _ _ ?_ (fun hHeld => ?_)
  · exact ⟨HT2.out.bl, HT2.out.x⟩
  clear hK K
  try simp only [Act.put, List.setIfInBounds_toArray, List.set_cons_zero, List.set_cons_succ]
  refine rqA 9 fun K hK => ?_
  go_simp
  refine (HU1.out _ hHeld.1).mono ?_
  rintro r w3 ⟨rfl, hb3⟩
  have HT3 := hid (HT2.out.below hb3)
  clear hHeld hb3 HT2 HU1
  go_wp2_with fail
  refine hK.out _ _ ?_ (fun hHeld => ?_)
  · exact ⟨HT3.out.bl, HT3.out.x⟩
  clear hK K
  try simp only [Act.put, List.setIfInBounds_toArray, List.set_cons_zero, List.set_cons_succ]
  refine tqB 10 41 (v := .int .i64 m) (hy := by intro w' hSw; go_simp; exact HME.out) ?_
  refine rqA 11 fun K hK => ?_
  go_simp
  refine (HTT.out _).mono ?_
  rintro r w4 ⟨t, rfl, hV, hb4⟩
  have HT4 := hid (HT3.out.below hb4)
  have HVT := hid hV
  obtain ⟨q, hq⟩ : ∃ q, q = (ans m).isSome := ⟨_, rfl⟩
  rw [← hq]
  have HQ := hid hq
  clear hHeld hb4 HT3 HTT hV hq
  go_wp2_with fail
  refine hK.out _ _ ?_ (fun hHeld => ?_)
  · exact ⟨HT4.out.bl, HT4.out.x⟩
  clear hK K
  try simp only [Act.put, List.setIfInBounds_toArray, List.set_cons_zero, List.set_cons_succ]
  refine tqB 12 43 ?_
  refine tqB 13 44 ?_
  have st : w4.there (w.heap.size + 1) 0 4 := HT4.out.r.there
  have on : (#[.int .i64 t.t.k, .slice t.t.a t.t.len t.t.cap, .int .i64 t.t.n, .int .i64 t.t.s] : Array Value).all (·.oneCell') = true := all_oneCell_toArray (cs := [.int .i64 t.t.k, .slice t.t.a t.t.len t.t.cap, .int .i64 t.t.n, .int .i64 t.t.s]) (by simp [Value.oneCell'])
  have hrd : (w4.setCells (w.heap.size + 1) 0 [.int .i64 t.t.k, .slice t.t.a t.t.len t.t.cap, .int .i64 t.t.n, .int .i64 t.t.s]).rangeAt (w.heap.size + 1) 0 [.int .i64 t.t.k, .slice t.t.a t.t.len t.t.cap, .int .i64 t.t.n, .int .i64 t.t.s] := World.rangeAt_setCells_same _ _ _ _ st
  have hbf := hid (HT4.out.sets [.int .i64 t.t.k, .slice t.t.a t.t.len t.t.cap, .int .i64 t.t.n, .int .i64 t.t.s])
  refine rqA 14 fun K hK => ?_
  refine step_storeV 24 (w.heap.size + 1) 0 #[.int .i64 t.t.k, .slice t.t.a t.t.len t.t.cap, .int .i64 t.t.n, .int .i64 t.t.s] st on ?_
  refine hK.out _ _ ?_ (fun hHeld => ?_)
  · exact hbf.out
  clear hK K st on
  try simp only [Act.put]
  refine tqB 15 7 ?_
  clear hHeld
  generalize w4.setCells (w.heap.size + 1) 0 [.int .i64 t.t.k, .slice t.t.a t.t.len t.t.cap, .int .i64 t.t.n, .int .i64 t.t.s] = W5 at *
  refine wpAnyH_done (by kernel_rfl) ?_ _
  go_wp2
  try simp only [Exit.inBlock, Exit.then]
  refine bodyPost_ret (v := .tuple #[.agg #[.int .i64 t.t.k, .slice t.t.a t.t.len t.t.cap, .int .i64 t.t.n, .int .i64 t.t.s], .bool q]) ?hror rfl ?hpor
  case hror => exact results_cell2 rfl rfl rfl (run_loadVar_mid (P := Try.prog) _ (w.heap.size + 1) 0 24 [.int .i64 t.t.k, .slice t.t.a t.t.len t.t.cap, .int .i64 t.t.n, .int .i64 t.t.s] _ hrd Try.underlying24 rfl (by kernel_rfl))
  exact ⟨t, by rw [E.out, HQ.out], by rw [E.out]; exact HVT.out, hbf.out.1⟩
end Go.Proofs.Ytidhcbjhggdncaa
