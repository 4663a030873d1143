import Derived.Test.YthljoojcpbignaaGreatDoorMk32
namespace Go.Proofs.YthljoojcpbignaaGreatDoor
open Go.RowKit Go.Deep
set_option maxHeartbeats 40000000
set_option maxRecDepth 100000
def xWord (k : Nat) : ByteArray := if k = 0 then ⟨#[40]⟩ else if k = 1 then ⟨#[78, 79, 84]⟩ else if k = 2 then ⟨#[66, 79, 85, 78, 68]⟩ else if k = 3 then ⟨#[73, 70]⟩ else if k = 4 then ⟨#[67, 79, 65, 76]⟩ else ⟨#[76, 69, 78]⟩
def xRd (k : Nat) : Nat := if k = 0 then 164 else if k = 1 then 159 else if k = 2 then 166 else if k = 3 then 161 else if k = 4 then 168 else 159
def xFn (k : Nat) : Nat := if k = 0 then 165 else if k = 1 then 162 else if k = 2 then 167 else if k = 3 then 162 else if k = 4 then 169 else 162
def xCells (k : Nat) : List Value := [.string (xWord k), .int .i64 ((k : Int) + 2), .func (.func (xRd k)) #[] #[], .func (.func (xFn k)) #[] #[]]
theorem call_enter {P : Program} {f : Nat} {fn : Func} {c : Go.Code} (hf : P.funcs[f]? = some fn) (hname : (fn.name == "runtime.NumGoroutine") = false) (hb : fn.body = some c) (args : Array Value) (w : World) : (callFunc f args).run P w = .ok (.enter f args) w := by
 have h1 : fn.name ≠ "runtime.NumGoroutine" := by simpa using hname
 simp [callFunc, hf, h1, hb]
theorem xFn_call (k : Nat) (args : Array Value) (w : World) : (callFunc (xFn k) args).run Tryz.prog w = .ok (.enter (xFn k) args) w := by
 unfold xFn
 split
 · exact call_enter Tryz.func165 (by kernel_rfl) rfl args w
 split
 · exact call_enter Tryz.func162 (by kernel_rfl) rfl args w
 split
 · exact call_enter Tryz.func167 (by kernel_rfl) rfl args w
 split
 · exact call_enter Tryz.func162 (by kernel_rfl) rfl args w
 split
 · exact call_enter Tryz.func169 (by kernel_rfl) rfl args w
 exact call_enter Tryz.func162 (by kernel_rfl) rfl args w
theorem xWord_len (k : Nat) : 0 < (xWord k).size ∧ (xWord k).size ≤ 5 := by
 unfold xWord
 repeat' split
 all_goals exact ⟨by decide, by decide⟩
theorem rule_one (st : ByteArray) (kk : Int) (rd wf : Nat) : ((rA st kk rd wf) : Array Value).all (·.oneCell') = true := all_oneCell_toArray (cs := (rL st kk rd wf)) (by intro v hv; simp only [List.mem_cons, List.not_mem_nil, or_false] at hv; rcases hv with rfl | rfl | rfl | rfl <;> rfl)
def XRules (c : WC) (r2 : Nat) : Prop := c.G[1]? = some (.slice (some ⟨r2, 0, none⟩) 6 6) ∧ ∀ k, k < 6 → ∀ i u, (xCells k)[i]? = some u → c.RT ⟨r2, k * 4 + i, none⟩ u
def XWrites (c : WC) (d : EN) (kid : Nat → ET) : Prop := ∀ k : Nat, k < 6 → (k : Int) + 2 = d.k → ∃ R, (numsOf (xWord k) ++ [32]) ++ R = eTx (.mk d kid) ∧ ∀ (v : Value) (bs : List Int) (W : World), WQ c W v bs → bs.length + 10 + 80 * sumN d.n (fun i => esz (kid i)) ≤ 900000 → Calls Tryz.prog (xFn k) #[.pointer (some ⟨c.g, 0, none⟩), .agg #[.int .i64 d.k, .int .i64 d.op, .slice d.v.a d.v.len d.v.cap, .int .i64 d.t.t.k, .slice d.t.t.a d.t.t.len d.t.t.cap, .int .i64 d.t.t.n, .int .i64 d.t.t.s, .slice d.ka d.n d.kc]] W (PutQ c v (bs ++ R) W)
theorem expr_of (c : WC) (d : EN) (kid : Nat → ET) (r2 : Nat) (v : Value) (bs : List Int) (w : World) (h : WQ c w v bs) (ht : Tab c.w0) (hX : XRules c r2) (hl : (ET.mk d kid).lies 0 c.w0) {lim deep : Int} (hok : eOk lim (.mk d kid) deep) (hn : bs.length + 80 * esz (.mk d kid) ≤ 900000) (HW : XWrites c d kid) :
 Calls Tryz.prog 212 #[.pointer (some ⟨c.g, 0, none⟩), .agg d.ar] w (PutQ c v (bs ++ eTx (.mk d kid)) w) := by
 try unfold EN.ar
 obtain ⟨hv, htm, hf, hn2, hR, hk⟩ := hl
 obtain ⟨hdp, ⟨hko, hvo, _, hto, _, hop, _⟩, hkid⟩ := hok
 have HKB : Hd (0 ≤ d.k ∧ d.k ≤ 7) := (show _ ∧ _ by unfold kOk at hko; omega)
 have hsz : esz (.mk d kid) = 1 + sumN d.n (fun i => esz (kid i)) := rfl
 have HLB : Hd (bs.length + 80 + 80 * sumN d.n (fun i => esz (kid i)) ≤ 900000) := (show _ ≤ _ by omega)
 have HS0 := iH (WS.new h d.ar 100)
 have HG := iH hX.1
 have HRX := iH hX.2
 have HWX := iH HW
 have HV : Hd (BsF 0 c.w0 d.v ∧ (BsF 0 c.w0 d.t.sl ∧ d.t.t.fits) ∧ Tab c.w0) := ⟨hv, ⟨htm, hf⟩, ht⟩
 have HVO := iH hvo
 have HTO := iH hto
 have HE0 : Hd (d.k = 0 → eTx (.mk d kid) = vTx d.v.b) := fun h0 => by rw [eTx_mk, if_pos h0]
 have HE1 : Hd (d.k = 1 → eTx (.mk d kid) = tTx d.t) := fun h0 => by rw [eTx_mk, if_neg (by omega), if_pos h0]
 obtain ⟨R, hRR⟩ : ∃ R, R = bs ++ eTx (.mk d kid) := ⟨_, rfl⟩
 have HRE := iH hRR
 rw [← hRR]
 clear h ht hX hv htm hf hn2 hR hk hdp hko hvo hto hop hkid hsz hn HW hRR
 go_in
 go_upto_region 1 with fail
 generalize (w.alloc (.cells d.ar 100)) = W1 at *
 have x0 := HS0.o.bx.2 0 _ rfl
 by_cases h0 : d.k = 0
 · have x2 := HS0.o.bx.2 2 _ rfl
   have k0 : (d.k == 0) = true := by simp [h0]
   have k1 : (d.k == 1) = false := by simp [h0]
   have HNM := iH (HVO.o (.inl h0))
   have HRV : Hd (bs ++ vTx d.v.b = R) := (show _ = _ by rw [HRE.o, HE0.o h0])
   have HK0 := iH h0
   clear h0
   go_wp2_with fail
   refine (variable_any c d.v v bs _ HS0.o.wq HV.o.1 HNM.o (by have := HLB.o; omega)).mono ?_
   rintro e z1 ⟨v1, rfl, hQ1, hK1⟩
   have HS1 : Hd (WS c w v v1 (R) d.cl z1) := (show WS _ _ _ _ _ _ _ by rw [← HRV.o]; exact HS0.o.step hQ1 hK1)
   clear hQ1 hK1 HS0 x0 x2
   have g1 := HS1.o.wq.gr 1 _ (by omega) HG.o
   go_wp2_with fail
   clear g1
   go_loopw [26] (fun i wr => ∃ (k : Nat) (v' : Value), k ≤ 6 ∧ i = .int .i64 k ∧ Hd (WS c w v v' ((if d.k < (k : Int) + 2 then R else bs)) [.int .i64 d.k, .int .i64 d.op, .slice d.v.a d.v.len d.v.cap, .int .i64 d.t.t.k, .slice d.t.t.a d.t.t.len d.t.t.cap, .int .i64 d.t.t.n, .int .i64 d.t.t.s, .slice d.ka d.n d.kc] wr)) (fun i _ => 6 - (intOf i).toNat)
   case atStart => exact ⟨0, v1, nZ, rfl, (show Hd (WS _ _ _ _ _ _ _) by rw [if_pos (show d.k < ((0 : Nat) : Int) + 2 by have := HK0.o; omega)]; exact HS1)⟩
   clear HS1
   obtain ⟨k, v', hk, rfl, HSr⟩ := hrel
   by_cases hlk : k < 6
   rotate_left
   · obtain rfl : k = 6 := by omega
     have HSE := iH (show WS _ _ _ _ _ _ _ by have h1 := HSr.o; rw [if_pos (show d.k < ((6 : Nat) : Int) + 2 by have := HKB.o; omega)] at h1; exact h1)
     clear HSr
     go_wp2_with fail
     go_end0
     exact HSE.o.put
   have hlkz : (k : Int) < 6 := by omega
   obtain ⟨st, hst⟩ : ∃ st, st = xWord k := ⟨_, rfl⟩
   obtain ⟨kk, hkk⟩ : ∃ kk : Int, kk = (k : Int) + 2 := ⟨_, rfl⟩
   obtain ⟨rd, hrd⟩ : ∃ rd, rd = xRd k := ⟨_, rfl⟩
   obtain ⟨wf, hwf⟩ : ∃ wf, wf = xFn k := ⟨_, rfl⟩
   have hcx : wr.rangeAt r2 (k * 4) (rL st kk rd wf) := fun i u hu => (HSr.o.wq.rt ⟨r2, k * 4 + i, none⟩ u (HRX.o k hlk i u (by rw [← hu, hst, hkk, hrd, hwf]; rfl))).2.2
   have HKQ := iH hkk
   have HWF : Hd (wf = xFn k ∧ st = xWord k) := ⟨hwf, hst⟩
   clear hst hkk hrd hwf
   have hth := (OB.new wr #[.string ⟨#[]⟩, .int .i64 0, .nilFunc, .nilFunc] 213).there 0 4 (by simp)
   have one1 := rule_one st kk rd wf
   have HBk : Hd (Bl wr ((wr.alloc (.cells #[.string ⟨#[]⟩, .int .i64 0, .nilFunc, .nilFunc] 213)).setCells wr.heap.size 0 (rL st kk rd wf))) := below_sets _ nR _ _ _ (bl_a _)
   have HS5 := iH (HSr.o.below HBk.o)
   have HI5 : Hd (WS c wr v' v' (if d.k < (k : Int) + 2 then R else bs) (rL st kk rd wf) ((wr.alloc (.cells #[.string ⟨#[]⟩, .int .i64 0, .nilFunc, .nilFunc] 213)).setCells wr.heap.size 0 (rL st kk rd wf))) := ⟨HSr.o.wq.below HBk.o, KQ.of_below HBk.o, ((OB.new wr #[.string ⟨#[]⟩, .int .i64 0, .nilFunc, .nilFunc] 213).put (rL st kk rd wf) 0 (rL st kk rd wf) (show 0 + 4 ≤ 4 by omega) rfl).box, fun e => by have := (HSr.o.wq.own.2 _ e).2; omega, HSr.o.wq.lt⟩
   go_wp2_with (first | (with_reducible refine wpq_at ?_; refine wpList_load_mid rfl 213 _ rfl r2 (k * 4) rfl (rL st kk rd wf) _ hcx Tryz.underlying213 rfl (by kernel_rfl) ?_; try simp only [Act.put, sA, zA, cA]) | (with_reducible refine wpq_at ?_; refine store_stop 213 (.tmp 5) (.tmp 29) rfl ?_))
   change wpList _ _ _ _ _ _
   refine wpList_store_mid rfl 213 _ _ rfl wr.heap.size 0 (rA st kk rd wf) rfl rfl hth (by kernel_rfl) one1 ?_
   try simp only [Act.put]
   generalize ((wr.alloc (.cells #[.string ⟨#[]⟩, .int .i64 0, .nilFunc, .nilFunc] 213)).setCells wr.heap.size 0 (rL st kk rd wf)) = W5 at *
   clear hcx hth one1 HBk HSr
   have y0 := HS5.o.bx.2 0 _ rfl
   have y1 := HI5.o.bx.2 1 _ rfl
   by_cases hj : kk = d.k
   · exfalso
     have h1 := HKQ.o
     have h2 := HK0.o
     omega
   have kq : (kk == d.k) = false := by simp [hj]
   have HS7 : Hd (WS c w v v' ((if d.k < ((k + 1 : Nat) : Int) + 2 then R else bs)) d.cl W5) := (show WS _ _ _ _ _ _ _ by
    have h1 := HS5.o
    have h2 := HKQ.o
    by_cases h3 : d.k < (k : Int) + 2
    · rw [if_pos h3] at h1
      rw [if_pos (by omega)]
      exact h1
    rw [if_neg h3] at h1
    rw [if_neg (by omega)]
    exact h1)
   clear HS5 HI5 hj
   go_wp2_with fail
   go_roundw
   case rel => exact ⟨k + 1, v', by omega, by go_num, HS7⟩
   case measure => simp [intOf]; omega
 by_cases h1 : d.k = 1
 · have lp := HS0.o.bx.range 3 [.int .i64 d.t.t.k, .slice d.t.t.a d.t.t.len d.t.t.cap, .int .i64 d.t.t.n, .int .i64 d.t.t.s] rfl
   have k0 : (d.k == 0) = false := by simp [h0]
   have k1 : (d.k == 1) = true := by simp [h1]
   have HNM := iH (HTO.o h1)
   have HRV : Hd (bs ++ tTx d.t = R) := (show _ = _ by rw [HRE.o, HE1.o h1])
   have HK0 := iH h1
   clear h0 h1
   go_wp2_with (with_reducible refine wpq_at ?_; refine wpList_load_mid rfl 93 _ rfl w.heap.size 3 rfl [.int .i64 d.t.t.k, .slice d.t.t.a d.t.t.len d.t.t.cap, .int .i64 d.t.t.n, .int .i64 d.t.t.s] _ lp Tryz.underlying93 rfl (by kernel_rfl) ?_; try simp only [Act.put, sA, zA, cA])
   refine (term_any c d.t v bs _ HS0.o.wq HV.o.2.2 HV.o.2.1 HNM.o (by have := HLB.o; omega)).mono ?_
   rintro e z1 ⟨v1, rfl, hQ1, hK1⟩
   have HS1 : Hd (WS c w v v1 (R) d.cl z1) := (show WS _ _ _ _ _ _ _ by rw [← HRV.o]; exact HS0.o.step hQ1 hK1)
   clear hQ1 hK1 HS0 x0 lp
   have g1 := HS1.o.wq.gr 1 _ (by omega) HG.o
   go_wp2_with fail
   clear g1
   go_loopw [26] (fun i wr => ∃ (k : Nat) (v' : Value), k ≤ 6 ∧ i = .int .i64 k ∧ Hd (WS c w v v' ((if d.k < (k : Int) + 2 then R else bs)) [.int .i64 d.k, .int .i64 d.op, .slice d.v.a d.v.len d.v.cap, .int .i64 d.t.t.k, .slice d.t.t.a d.t.t.len d.t.t.cap, .int .i64 d.t.t.n, .int .i64 d.t.t.s, .slice d.ka d.n d.kc] wr)) (fun i _ => 6 - (intOf i).toNat)
   case atStart => exact ⟨0, v1, nZ, rfl, (show Hd (WS _ _ _ _ _ _ _) by rw [if_pos (show d.k < ((0 : Nat) : Int) + 2 by have := HK0.o; omega)]; exact HS1)⟩
   clear HS1
   obtain ⟨k, v', hk, rfl, HSr⟩ := hrel
   by_cases hlk : k < 6
   rotate_left
   · obtain rfl : k = 6 := by omega
     have HSE := iH (show WS _ _ _ _ _ _ _ by have h1 := HSr.o; rw [if_pos (show d.k < ((6 : Nat) : Int) + 2 by have := HKB.o; omega)] at h1; exact h1)
     clear HSr
     go_wp2_with fail
     go_end0
     exact HSE.o.put
   have hlkz : (k : Int) < 6 := by omega
   obtain ⟨st, hst⟩ : ∃ st, st = xWord k := ⟨_, rfl⟩
   obtain ⟨kk, hkk⟩ : ∃ kk : Int, kk = (k : Int) + 2 := ⟨_, rfl⟩
   obtain ⟨rd, hrd⟩ : ∃ rd, rd = xRd k := ⟨_, rfl⟩
   obtain ⟨wf, hwf⟩ : ∃ wf, wf = xFn k := ⟨_, rfl⟩
   have hcx : wr.rangeAt r2 (k * 4) (rL st kk rd wf) := fun i u hu => (HSr.o.wq.rt ⟨r2, k * 4 + i, none⟩ u (HRX.o k hlk i u (by rw [← hu, hst, hkk, hrd, hwf]; rfl))).2.2
   have HKQ := iH hkk
   have HWF : Hd (wf = xFn k ∧ st = xWord k) := ⟨hwf, hst⟩
   clear hst hkk hrd hwf
   have hth := (OB.new wr #[.string ⟨#[]⟩, .int .i64 0, .nilFunc, .nilFunc] 213).there 0 4 (by simp)
   have one1 := rule_one st kk rd wf
   have HBk : Hd (Bl wr ((wr.alloc (.cells #[.string ⟨#[]⟩, .int .i64 0, .nilFunc, .nilFunc] 213)).setCells wr.heap.size 0 (rL st kk rd wf))) := below_sets _ nR _ _ _ (bl_a _)
   have HS5 := iH (HSr.o.below HBk.o)
   have HI5 : Hd (WS c wr v' v' (if d.k < (k : Int) + 2 then R else bs) (rL st kk rd wf) ((wr.alloc (.cells #[.string ⟨#[]⟩, .int .i64 0, .nilFunc, .nilFunc] 213)).setCells wr.heap.size 0 (rL st kk rd wf))) := ⟨HSr.o.wq.below HBk.o, KQ.of_below HBk.o, ((OB.new wr #[.string ⟨#[]⟩, .int .i64 0, .nilFunc, .nilFunc] 213).put (rL st kk rd wf) 0 (rL st kk rd wf) (show 0 + 4 ≤ 4 by omega) rfl).box, fun e => by have := (HSr.o.wq.own.2 _ e).2; omega, HSr.o.wq.lt⟩
   go_wp2_with (first | (with_reducible refine wpq_at ?_; refine wpList_load_mid rfl 213 _ rfl r2 (k * 4) rfl (rL st kk rd wf) _ hcx Tryz.underlying213 rfl (by kernel_rfl) ?_; try simp only [Act.put, sA, zA, cA]) | (with_reducible refine wpq_at ?_; refine store_stop 213 (.tmp 5) (.tmp 29) rfl ?_))
   change wpList _ _ _ _ _ _
   refine wpList_store_mid rfl 213 _ _ rfl wr.heap.size 0 (rA st kk rd wf) rfl rfl hth (by kernel_rfl) one1 ?_
   try simp only [Act.put]
   generalize ((wr.alloc (.cells #[.string ⟨#[]⟩, .int .i64 0, .nilFunc, .nilFunc] 213)).setCells wr.heap.size 0 (rL st kk rd wf)) = W5 at *
   clear hcx hth one1 HBk HSr
   have y0 := HS5.o.bx.2 0 _ rfl
   have y1 := HI5.o.bx.2 1 _ rfl
   by_cases hj : kk = d.k
   · exfalso
     have h1 := HKQ.o
     have h2 := HK0.o
     omega
   have kq : (kk == d.k) = false := by simp [hj]
   have HS7 : Hd (WS c w v v' ((if d.k < ((k + 1 : Nat) : Int) + 2 then R else bs)) d.cl W5) := (show WS _ _ _ _ _ _ _ by
    have h1 := HS5.o
    have h2 := HKQ.o
    by_cases h3 : d.k < (k : Int) + 2
    · rw [if_pos h3] at h1
      rw [if_pos (by omega)]
      exact h1
    rw [if_neg h3] at h1
    rw [if_neg (by omega)]
    exact h1)
   clear HS5 HI5 hj
   go_wp2_with fail
   go_roundw
   case rel => exact ⟨k + 1, v', by omega, by go_num, HS7⟩
   case measure => simp [intOf]; omega
 have k0 : (d.k == 0) = false := by simp [h0]
 have k1 : (d.k == 1) = false := by simp [h1]
 have HK0 : Hd (2 ≤ d.k) := (show _ ≤ _ by have := HKB.o; omega)
 clear h0 h1
 have g1 := HS0.o.wq.gr 1 _ (by omega) HG.o
 go_wp2_with fail
 clear g1
 go_loopw [26] (fun i wr => ∃ (k : Nat) (v' : Value), k ≤ 6 ∧ i = .int .i64 k ∧ Hd (WS c w v v' ((if d.k < (k : Int) + 2 then R else bs)) [.int .i64 d.k, .int .i64 d.op, .slice d.v.a d.v.len d.v.cap, .int .i64 d.t.t.k, .slice d.t.t.a d.t.t.len d.t.t.cap, .int .i64 d.t.t.n, .int .i64 d.t.t.s, .slice d.ka d.n d.kc] wr)) (fun i _ => 6 - (intOf i).toNat)
 case atStart => exact ⟨0, v, nZ, rfl, (show Hd (WS _ _ _ _ _ _ _) by rw [if_neg (show ¬ d.k < ((0 : Nat) : Int) + 2 by have := HK0.o; omega)]; exact HS0)⟩
 clear HS0
 obtain ⟨k, v', hk, rfl, HSr⟩ := hrel
 by_cases hlk : k < 6
 rotate_left
 · obtain rfl : k = 6 := by omega
   have HSE := iH (show WS _ _ _ _ _ _ _ by have h1 := HSr.o; rw [if_pos (show d.k < ((6 : Nat) : Int) + 2 by have := HKB.o; omega)] at h1; exact h1)
   clear HSr
   go_wp2_with fail
   go_end0
   exact HSE.o.put
 have hlkz : (k : Int) < 6 := by omega
 obtain ⟨st, hst⟩ : ∃ st, st = xWord k := ⟨_, rfl⟩
 obtain ⟨kk, hkk⟩ : ∃ kk : Int, kk = (k : Int) + 2 := ⟨_, rfl⟩
 obtain ⟨rd, hrd⟩ : ∃ rd, rd = xRd k := ⟨_, rfl⟩
 obtain ⟨wf, hwf⟩ : ∃ wf, wf = xFn k := ⟨_, rfl⟩
 have hcx : wr.rangeAt r2 (k * 4) (rL st kk rd wf) := fun i u hu => (HSr.o.wq.rt ⟨r2, k * 4 + i, none⟩ u (HRX.o k hlk i u (by rw [← hu, hst, hkk, hrd, hwf]; rfl))).2.2
 have HKQ := iH hkk
 have HWF : Hd (wf = xFn k ∧ st = xWord k) := ⟨hwf, hst⟩
 clear hst hkk hrd hwf
 have hth := (OB.new wr #[.string ⟨#[]⟩, .int .i64 0, .nilFunc, .nilFunc] 213).there 0 4 (by simp)
 have one1 := rule_one st kk rd wf
 have HBk : Hd (Bl wr ((wr.alloc (.cells #[.string ⟨#[]⟩, .int .i64 0, .nilFunc, .nilFunc] 213)).setCells wr.heap.size 0 (rL st kk rd wf))) := below_sets _ nR _ _ _ (bl_a _)
 have HS5 := iH (HSr.o.below HBk.o)
 have HI5 : Hd (WS c wr v' v' (if d.k < (k : Int) + 2 then R else bs) (rL st kk rd wf) ((wr.alloc (.cells #[.string ⟨#[]⟩, .int .i64 0, .nilFunc, .nilFunc] 213)).setCells wr.heap.size 0 (rL st kk rd wf))) := ⟨HSr.o.wq.below HBk.o, KQ.of_below HBk.o, ((OB.new wr #[.string ⟨#[]⟩, .int .i64 0, .nilFunc, .nilFunc] 213).put (rL st kk rd wf) 0 (rL st kk rd wf) (show 0 + 4 ≤ 4 by omega) rfl).box, fun e => by have := (HSr.o.wq.own.2 _ e).2; omega, HSr.o.wq.lt⟩
 go_wp2_with (first | (with_reducible refine wpq_at ?_; refine wpList_load_mid rfl 213 _ rfl r2 (k * 4) rfl (rL st kk rd wf) _ hcx Tryz.underlying213 rfl (by kernel_rfl) ?_; try simp only [Act.put, sA, zA, cA]) | (with_reducible refine wpq_at ?_; refine store_stop 213 (.tmp 5) (.tmp 29) rfl ?_))
 change wpList _ _ _ _ _ _
 refine wpList_store_mid rfl 213 _ _ rfl wr.heap.size 0 (rA st kk rd wf) rfl rfl hth (by kernel_rfl) one1 ?_
 try simp only [Act.put]
 generalize ((wr.alloc (.cells #[.string ⟨#[]⟩, .int .i64 0, .nilFunc, .nilFunc] 213)).setCells wr.heap.size 0 (rL st kk rd wf)) = W5 at *
 clear hcx hth one1 HBk HSr
 have y0 := HS5.o.bx.2 0 _ rfl
 have y1 := HI5.o.bx.2 1 _ rfl
 by_cases hj : kk = d.k
 · have kq : (kk == d.k) = true := by simp [hj]
   have HJ : Hd ((k : Int) + 2 = d.k) := (show _ = _ by rw [← HKQ.o]; exact hj)
   have ej : (if d.k < (k : Int) + 2 then R else bs) = bs := if_neg (by have := HJ.o; omega)
   rw [ej] at HS5 HI5
   obtain ⟨R1, hR1, hW1⟩ := HWX.o k hlk HJ.o
   rw [← HWF.o.1] at hW1
   rw [← HWF.o.2] at hR1
   have HW1 := iH hW1
   have HR1 : Hd (bs ++ (numsOf st ++ [32]) ++ R1 = R) := (show _ = _ by rw [HRE.o, ← hR1]; simp)
   have HST : Hd (0 < st.size ∧ st.size ≤ 5) := (show _ ∧ _ by rw [HWF.o.2]; exact xWord_len k)
   clear ej hR1 hW1 hj
   have ys := HI5.o.bx.2 0 _ rfl
   go_wp2_with fail
   clear y0 y1 ys
   refine (put1 c st v' bs _ HI5.o.wq HST.o.1 (by have := HLB.o; have := HST.o.2; omega)).mono ?_
   rintro e z6 ⟨v6, rfl, hQ6, hK6⟩
   have HS6 := iH (HS5.o.step hQ6 hK6)
   have HI6 := iH (HI5.o.step hQ6 hK6)
   clear hQ6 hK6 HS5 HI5
   have y3 := HI6.o.bx.2 3 _ rfl
   have ld := HS6.o.bx.range 0 d.cl rfl
   have cf : (callFunc wf #[.pointer (some ⟨c.g, 0, none⟩), .agg d.ar]).run Tryz.prog z6 = .ok (.enter wf #[.pointer (some ⟨c.g, 0, none⟩), .agg d.ar]) z6 := by rw [HWF.o.1]; exact xFn_call k _ _
   go_wp2_with (with_reducible refine wpq_at ?_; refine wpList_load_mid rfl 100 _ rfl w.heap.size 0 rfl d.cl _ ld Tryz.underlying100 rfl (by kernel_rfl) ?_; try simp only [Act.put, sA, zA, cA])
   clear ld y3 cf
   refine (HW1.o v6 _ _ HS6.o.wq (by have := HLB.o; have := HST.o.2; simp only [List.length_append, List.length_cons, List.length_nil, numsOf_len]; omega)).mono ?_
   rintro e z7 ⟨v7, rfl, hQ7, hK7⟩
   have HS7 : Hd (WS c w v v7 ((if d.k < ((k + 1 : Nat) : Int) + 2 then R else bs)) d.cl z7) := (show WS _ _ _ _ _ _ _ by rw [if_pos (by have := HJ.o; omega), ← HR1.o]; exact HS6.o.step hQ7 hK7)
   clear hQ7 hK7 HS6 HI6
   go_wp2_with fail
   go_roundw
   case rel => exact ⟨k + 1, v7, by omega, by go_num, HS7⟩
   case measure => simp [intOf]; omega
 have kq : (kk == d.k) = false := by simp [hj]
 have HS7 : Hd (WS c w v v' ((if d.k < ((k + 1 : Nat) : Int) + 2 then R else bs)) d.cl W5) := (show WS _ _ _ _ _ _ _ by
  have h1 := HS5.o
  have h2 := HKQ.o
  by_cases h3 : d.k < (k : Int) + 2
  · rw [if_pos h3] at h1
    rw [if_pos (by omega)]
    exact h1
  rw [if_neg h3] at h1
  rw [if_neg (by omega)]
  exact h1)
 clear HS5 HI5 hj
 go_wp2_with fail
 go_roundw
 case rel => exact ⟨k + 1, v', by omega, by go_num, HS7⟩
 case measure => simp [intOf]; omega
theorem xwrites (c : WC) (d : EN) (kid : Nat → ET) (hl : (ET.mk d kid).lies 0 c.w0) {lim deep : Int} (hok : eOk lim (.mk d kid) deep) (IH : ∀ i, i < d.n → SayX c (kid i)) : XWrites c d kid := by
 obtain ⟨hv, htm, hf, hn2, hR, hk⟩ := hl
 obtain ⟨hdp, ⟨hko, hvo, _, hto, _, hop, _⟩, hkid⟩ := hok
 have hL := fun i (hi : i < d.n) => eTx_len (hkid i hi)
 unfold kOk at hko
 intro k hk6 hkd
 have hX : eTx (.mk d kid) = if d.k = 0 then vTx d.v.b else if d.k = 1 then tTx d.t else if d.k = 2 then [40, 32] ++ (eTx (kid 0) ++ ([opB d.op, 32] ++ (eTx (kid 1) ++ [41, 32]))) else if d.k = 3 then [78, 79, 84, 32] ++ eTx (kid 0)
  else if d.k = 4 then [66, 79, 85, 78, 68, 32] ++ vTx d.v.b else if d.k = 5 then [73, 70, 32] ++ (eTx (kid 0) ++ (eTx (kid 1) ++ eTx (kid 2))) else if d.k = 7 then [76, 69, 78, 32] ++ eTx (kid 0) else [67, 79, 65, 76, 32, 123, 32] ++ (catN d.n (fun i => eTx (kid i)) ++ [125, 32]) := eTx_mk d kid
 rcases (by omega : k = 0 ∨ k = 1 ∨ k = 2 ∨ k = 3 ∨ k = 4 ∨ k = 5) with rfl | rfl | rfl | rfl | rfl | rfl
 · have hd : d.k = 2 := by omega
   have hn : d.n = 2 := by omega
   refine ⟨eTx (kid 0) ++ ([opB d.op, 32] ++ (eTx (kid 1) ++ [41, 32])), ?_, fun v bs W hW hb => ?_⟩
   · rw [hX, hd]; rfl
   exact (operation_any c d kid v bs W hW hR hn hop hL (by omega) IH).mono fun e w' h => h.to (by simp)
 · have hd : d.k = 3 := by omega
   have hn : d.n = 1 := by omega
   refine ⟨eTx (kid 0), ?_, fun v bs W hW hb => ?_⟩
   · rw [hX, hd]; rfl
   exact (wkids_any c d kid v bs W hW hn2 hR hL (by omega) IH).mono fun e w' h => h.to (by rw [hn]; simp [catN])
 · have hd : d.k = 4 := by omega
   refine ⟨vTx d.v.b, ?_, fun v bs W hW hb => ?_⟩
   · rw [hX, hd]; rfl
   exact wbound_any c d v bs W hW hv (hvo (.inr hd)) (by omega)
 · have hd : d.k = 5 := by omega
   have hn : d.n = 3 := by omega
   refine ⟨eTx (kid 0) ++ (eTx (kid 1) ++ eTx (kid 2)), ?_, fun v bs W hW hb => ?_⟩
   · rw [hX, hd]; rfl
   exact (wkids_any c d kid v bs W hW hn2 hR hL (by omega) IH).mono fun e w' h => h.to (by rw [hn]; simp [catN])
 · have hd : d.k = 6 := by omega
   refine ⟨[123, 32] ++ (catN d.n (fun i => eTx (kid i)) ++ [125, 32]), ?_, fun v bs W hW hb => ?_⟩
   · rw [hX, hd]; rfl
   exact (coal_any c d kid v bs W hW hn2 hR hL (by omega) IH).mono fun e w' h => h.to (by simp)
 have hd : d.k = 7 := by omega
 have hn : d.n = 1 := by omega
 refine ⟨eTx (kid 0), ?_, fun v bs W hW hb => ?_⟩
 · rw [hX, hd]; rfl
 exact (wkids_any c d kid v bs W hW hn2 hR hL (by omega) IH).mono fun e w' h => h.to (by rw [hn]; simp [catN])
theorem sayX_any (c : WC) (r2 : Nat) (ht : Tab c.w0) (hX : XRules c r2) {lim : Int} (e : ET) : ∀ (deep : Int), e.lies 0 c.w0 → eOk lim e deep → SayX c e := by
 induction e with
 | nil => exact fun _ h => False.elim h
 | mk d kid ih =>
  intro deep hl hok v bs W hW hn
  have IH := fun i (hi : i < d.n) => ih i (deep + 1) (hl.2.2.2.2.2 i hi) (hok.2.2 i hi)
  exact expr_of c d kid r2 v bs W hW ht hX hl hok hn (xwrites c d kid hl hok IH)
def SayW (c : WC) (a : Option Addr) (cap n : Nat) (kid : Nat → UT) : Prop := ∀ (v : Value) (bs : List Int) (W : World), WQ c W v bs → bs.length + 700 * sumN n (fun i => usz (kid i)) + 4 ≤ 900000 → Calls Tryz.prog 80 #[.pointer (some ⟨c.g, 0, none⟩), .slice a n cap] W (PutQ c v (bs ++ gTx n kid) W)
theorem wgroup_any (c : WC) (d : UN) (ka : Nat → UT) (IA : SayW c d.aa d.ac d.an ka) (v : Value) (bs : List Int) (w : World) (h : WQ c w v bs) (hm : bs.length + 700 * sumN d.an (fun i => usz (ka i)) + 4 ≤ 900000) :
 Calls Tryz.prog 150 #[.pointer (some ⟨c.g, 0, none⟩), .agg d.ar] w (PutQ c v (bs ++ gTx d.an ka) w) := by
 have HS0 := iH (WS.new h d.ar 103)
 have HIA := iH IA
 clear h IA
 go_in
 go_upto_region 1 with fail
 generalize (w.alloc (.cells d.ar 103)) = W1 at *
 have y := HS0.o.bx.2 26 _ rfl
 go_wp2_with fail
 refine (HIA.o v bs _ HS0.o.wq hm).mono ?_
 rintro e z1 ⟨v1, rfl, hQ1, hK1⟩
 have HS1 := iH (HS0.o.step hQ1 hK1)
 clear hQ1 hK1 HS0
 clear y
 go_wp2_with fail
 go_end0
 exact HS1.o.put
theorem union_any (c : WC) (d : UN) (ka kb : Nat → UT) (IA : SayW c d.aa d.ac d.an ka) (IB : SayW c d.ba d.bc d.bn kb) (v : Value) (bs : List Int) (w : World) (h : WQ c w v bs) (hl : (gTx d.an ka).length ≤ 700 * sumN d.an (fun i => usz (ka i)) + 4) (hm : bs.length + 700 * sumN d.an (fun i => usz (ka i)) + 4 + 700 * sumN d.bn (fun i => usz (kb i)) + 4 ≤ 900000) :
 Calls Tryz.prog 152 #[.pointer (some ⟨c.g, 0, none⟩), .agg d.ar] w (PutQ c v (bs ++ gTx d.an ka ++ gTx d.bn kb) w) := by
 have HS0 := iH (WS.new h d.ar 103)
 have HIA := iH IA
 have HIB := iH IB
 have HLA := iH hl
 clear h IA IB hl
 go_in
 go_upto_region 1 with fail
 generalize (w.alloc (.cells d.ar 103)) = W1 at *
 have y := HS0.o.bx.2 26 _ rfl
 go_wp2_with fail
 refine (HIA.o v bs _ HS0.o.wq (by omega)).mono ?_
 rintro e z1 ⟨v1, rfl, hQ1, hK1⟩
 have HS1 := iH (HS0.o.step hQ1 hK1)
 clear hQ1 hK1 HS0
 clear y
 have y := HS1.o.bx.2 27 _ rfl
 go_wp2_with fail
 refine (HIB.o v1 _ _ HS1.o.wq (by have := HLA.o; rw [List.length_append]; omega)).mono ?_
 rintro e z2 ⟨v2, rfl, hQ2, hK2⟩
 have HS2 := iH (HS1.o.step hQ2 hK2)
 clear hQ2 hK2 HS1
 clear y
 go_wp2_with fail
 go_end0
 exact HS2.o.put
theorem filter_any (c : WC) (d : UN) (IE : SayX c d.e) (v : Value) (bs : List Int) (w : World) (h : WQ c w v bs) (hm : bs.length + 80 * esz d.e ≤ 900000) :
 Calls Tryz.prog 154 #[.pointer (some ⟨c.g, 0, none⟩), .agg d.ar] w (PutQ c v (bs ++ eTx d.e) w) := by
 have HS0 := iH (WS.new h d.ar 103)
 have HIE := iH IE
 clear h IE
 go_in
 go_upto_region 1 with fail
 generalize (w.alloc (.cells d.ar 103)) = W1 at *
 have le := HS0.o.bx.range 16 d.e.d.cl rfl
 go_wp2_with (with_reducible refine wpq_at ?_; refine wpList_load_mid rfl 100 _ rfl w.heap.size 16 rfl d.e.d.cl _ le Tryz.underlying100 rfl (by kernel_rfl) ?_; try simp only [Act.put, sA, zA, cA])
 refine (HIE.o v bs _ HS0.o.wq hm).mono ?_
 rintro e z1 ⟨v1, rfl, hQ1, hK1⟩
 have HS1 := iH (HS0.o.step hQ1 hK1)
 clear hQ1 hK1 HS0
 clear le
 go_wp2_with fail
 go_end0
 exact HS1.o.put
theorem bind_any (c : WC) (d : UN) (IE : SayX c d.e) (hv : BsF 0 c.w0 d.v) (hk : nameOk d.v.b = true) (v : Value) (bs : List Int) (w : World) (h : WQ c w v bs) (hl : (eTx d.e).length ≤ 80 * esz d.e) (hm : bs.length + 80 * esz d.e ≤ 900000) :
 Calls Tryz.prog 156 #[.pointer (some ⟨c.g, 0, none⟩), .agg d.ar] w (PutQ c v (bs ++ eTx d.e ++ vTx d.v.b) w) := by
 have HS0 := iH (WS.new h d.ar 103)
 have HIE := iH IE
 have HV : Hd (BsF 0 c.w0 d.v ∧ nameOk d.v.b = true) := ⟨hv, hk⟩
 have HLE := iH hl
 clear h IE hv hk hl
 go_in
 go_upto_region 1 with fail
 generalize (w.alloc (.cells d.ar 103)) = W1 at *
 have le := HS0.o.bx.range 16 d.e.d.cl rfl
 go_wp2_with (with_reducible refine wpq_at ?_; refine wpList_load_mid rfl 100 _ rfl w.heap.size 16 rfl d.e.d.cl _ le Tryz.underlying100 rfl (by kernel_rfl) ?_; try simp only [Act.put, sA, zA, cA])
 refine (HIE.o v bs _ HS0.o.wq hm).mono ?_
 rintro e z1 ⟨v1, rfl, hQ1, hK1⟩
 have HS1 := iH (HS0.o.step hQ1 hK1)
 clear hQ1 hK1 HS0
 clear le
 have y := HS1.o.bx.2 24 _ rfl
 go_wp2_with fail
 refine (variable_any c d.v v1 (bs ++ eTx d.e) _ HS1.o.wq HV.o.1 HV.o.2 (by have := HLE.o; rw [List.length_append]; omega)).mono ?_
 rintro e z2 ⟨v2, rfl, hQ2, hK2⟩
 have HS2 := iH (HS1.o.step hQ2 hK2)
 clear hQ2 hK2 HS1
 clear y
 go_wp2_with fail
 go_end0
 exact HS2.o.put
theorem values_any (c : WC) (d : UN) (hv : BsF 0 c.w0 d.v) (hk : nameOk d.v.b = true) (ht : Tab c.w0) (hR : TRowF 0 c.w0 d.ta d.tb) (h8 : d.tb.length ≤ 8) (hto : ∀ x ∈ d.tb, x.td.ok = true) (v : Value) (bs : List Int) (w : World) (h : WQ c w v bs) (hm : bs.length ≤ 900000) :
 Calls Tryz.prog 158 #[.pointer (some ⟨c.g, 0, none⟩), .agg d.ar] w (PutQ c v (bs ++ vTx d.v.b ++ [123, 32] ++ catN d.tb.length (fun i => tTx (tbG d.tb i)) ++ [125, 32]) w) := by
 try unfold UN.ar
 have HS0 := iH (WS.new h d.ar 103)
 have HV : Hd (BsF 0 c.w0 d.v ∧ nameOk d.v.b = true) := ⟨hv, hk⟩
 have HT := iH ht
 have HTR := iH hR
 have HTO := iH hto
 have HVL := iH (vTx_len hk)
 have HLK := iH (fun k (hk : k ≤ d.tb.length) => tbsTx_len hto k hk)
 clear h hv hk ht hR hto
 go_in
 go_upto_region 1 with fail
 generalize (w.alloc (.cells d.ar 103)) = W1 at *
 have y := HS0.o.bx.2 24 _ rfl
 go_wp2_with fail
 refine (variable_any c d.v v bs _ HS0.o.wq HV.o.1 HV.o.2 (by omega)).mono ?_
 rintro e z1 ⟨v1, rfl, hQ1, hK1⟩
 have HS1 := iH (HS0.o.step hQ1 hK1)
 clear hQ1 hK1 HS0
 clear y
 go_wp2_with fail
 refine (put1 c ⟨#[123]⟩ v1 (bs ++ vTx d.v.b) _ HS1.o.wq (by decide) (by have q1 := HVL.o; rw [show (ByteArray.mk #[123]).size = 1 from rfl]; rw [List.length_append]; omega)).mono ?_
 rintro e z2 ⟨v2, rfl, hQ2, hK2⟩
 have HS2 : Hd (WS c w v v2 (bs ++ vTx d.v.b ++ [123, 32]) d.cl z2) := HS1.o.step hQ2 hK2
 clear hQ2 hK2 HS1
 have y := HS2.o.bx.2 25 _ rfl
 obtain ⟨n, hn⟩ : ∃ n, n = d.tb.length := ⟨_, rfl⟩
 have HNN := iH hn
 rw [← hn] at y h8
 clear hn
 by_cases hn0 : n = 0
 · have HN0 := iH hn0
   rw [hn0] at y
   go_wp2_with fail
   clear y
   go_loopw [16] (fun i wr => i = .int .i64 0 ∧ Hd (WS c w v v2 (bs ++ vTx d.v.b ++ [123, 32]) [.int .i64 d.k, .slice d.p.s.v.a d.p.s.v.len d.p.s.v.cap, .int .i64 d.p.s.t.t.k, .slice d.p.s.t.t.a d.p.s.t.t.len d.p.s.t.t.cap, .int .i64 d.p.s.t.t.n, .int .i64 d.p.s.t.t.s, .slice d.p.p.v.a d.p.p.v.len d.p.p.v.cap, .int .i64 d.p.p.t.t.k, .slice d.p.p.t.t.a d.p.p.t.t.len d.p.p.t.t.cap, .int .i64 d.p.p.t.t.n, .int .i64 d.p.p.t.t.s, .slice d.p.o.v.a d.p.o.v.len d.p.o.v.cap, .int .i64 d.p.o.t.t.k, .slice d.p.o.t.t.a d.p.o.t.t.len d.p.o.t.t.cap, .int .i64 d.p.o.t.t.n, .int .i64 d.p.o.t.t.s, .int .i64 d.e.d.k, .int .i64 d.e.d.op, .slice d.e.d.v.a d.e.d.v.len d.e.d.v.cap, .int .i64 d.e.d.t.t.k, .slice d.e.d.t.t.a d.e.d.t.t.len d.e.d.t.t.cap, .int .i64 d.e.d.t.t.n, .int .i64 d.e.d.t.t.s, .slice d.e.d.ka d.e.d.n d.e.d.kc, .slice d.v.a d.v.len d.v.cap, .slice d.ta d.tb.length d.tc, .slice d.aa d.an d.ac, .slice d.ba d.bn d.bc] wr)) (fun _ _ => 0)
   case atStart => exact ⟨rfl, HS2⟩
   clear HS2
   obtain ⟨rfl, HSr⟩ := hrel
   go_wp2_with fail
   refine (put1 c ⟨#[125]⟩ v2 _ _ HSr.o.wq (by decide) (by have q1 := HVL.o; rw [show (ByteArray.mk #[125]).size = 1 from rfl]; (try simp only [lA, lC, lN]); omega)).mono ?_
   rintro e z5 ⟨v5, rfl, hQ5, hK5⟩
   have HS5 : Hd (WS c w v v5 (bs ++ vTx d.v.b ++ [123, 32] ++ [125, 32]) d.cl z5) := HSr.o.step hQ5 hK5
   clear hQ5 hK5 HSr
   go_wp2_with fail
   go_end0
   exact HS5.o.put.to (by rw [← HNN.o, HN0.o]; simp [catN])
 obtain ⟨b2, off2, eT, hbt, hct⟩ := HTR.o.1.resolve_left (fun e => by have := HNN.o; rw [e] at this; exact hn0 this)
 have HCT := iH hct
 rw [eT] at y
 clear hn0 hct eT
 go_wp2_with fail
 clear y
 go_loopw [16] (fun i wr => ∃ (k : Nat) (v' : Value), k ≤ n ∧ i = .int .i64 k ∧ Hd (WS c w v v' (bs ++ vTx d.v.b ++ [123, 32] ++ catN k (fun i => tTx (tbG d.tb i))) [.int .i64 d.k, .slice d.p.s.v.a d.p.s.v.len d.p.s.v.cap, .int .i64 d.p.s.t.t.k, .slice d.p.s.t.t.a d.p.s.t.t.len d.p.s.t.t.cap, .int .i64 d.p.s.t.t.n, .int .i64 d.p.s.t.t.s, .slice d.p.p.v.a d.p.p.v.len d.p.p.v.cap, .int .i64 d.p.p.t.t.k, .slice d.p.p.t.t.a d.p.p.t.t.len d.p.p.t.t.cap, .int .i64 d.p.p.t.t.n, .int .i64 d.p.p.t.t.s, .slice d.p.o.v.a d.p.o.v.len d.p.o.v.cap, .int .i64 d.p.o.t.t.k, .slice d.p.o.t.t.a d.p.o.t.t.len d.p.o.t.t.cap, .int .i64 d.p.o.t.t.n, .int .i64 d.p.o.t.t.s, .int .i64 d.e.d.k, .int .i64 d.e.d.op, .slice d.e.d.v.a d.e.d.v.len d.e.d.v.cap, .int .i64 d.e.d.t.t.k, .slice d.e.d.t.t.a d.e.d.t.t.len d.e.d.t.t.cap, .int .i64 d.e.d.t.t.n, .int .i64 d.e.d.t.t.s, .slice d.e.d.ka d.e.d.n d.e.d.kc, .slice d.v.a d.v.len d.v.cap, .slice d.ta d.tb.length d.tc, .slice d.aa d.an d.ac, .slice d.ba d.bn d.bc] wr)) (fun i _ => n - (intOf i).toNat)
 case atStart => exact ⟨0, v2, nZ, rfl, (show Hd (WS c w v v2 (bs ++ vTx d.v.b ++ [123, 32] ++ []) _ _) by rw [List.append_nil]; exact HS2)⟩
 clear HS2
 obtain ⟨k, v', hk, rfl, HSr⟩ := hrel
 have hkl := HLK.o k (by have := HNN.o; omega)
 by_cases hlk : k < n
 rotate_left
 · obtain rfl : k = n := by omega
   have hlkz : ¬ (k : Int) < (k : Int) := by omega
   go_wp2_with fail
   refine (put1 c ⟨#[125]⟩ v' _ _ HSr.o.wq (by decide) (by have q1 := HVL.o; rw [show (ByteArray.mk #[125]).size = 1 from rfl]; (try simp only [lA, lC, lN]); omega)).mono ?_
   rintro e z5 ⟨v5, rfl, hQ5, hK5⟩
   have HS5 : Hd (WS c w v v5 (bs ++ vTx d.v.b ++ [123, 32] ++ catN k (fun i => tTx (tbG d.tb i)) ++ [125, 32]) d.cl z5) := HSr.o.step hQ5 hK5
   clear hQ5 hK5 HSr
   go_wp2_with fail
   go_end0
   exact HS5.o.put.to (by rw [← HNN.o])
 have hlkz : (k : Int) < (n : Int) := by omega
 have hkl2 : k < d.tb.length := by have := HNN.o; omega
 obtain ⟨hx1, hx2⟩ := tbG_at hkl2
 have hcx : wr.rangeAt b2 (off2 + k * 4) [.int .i64 (tbG d.tb k).t.k, .slice (tbG d.tb k).t.a (tbG d.tb k).t.len (tbG d.tb k).t.cap, .int .i64 (tbG d.tb k).t.n, .int .i64 (tbG d.tb k).t.s] := fun j u hu => (HSr.o.wq.bl.cell (p := ⟨b2, off2 + k * 4 + j, none⟩) hbt).trans (by
  have hj : j < 4 := (List.getElem?_eq_some_iff.1 hu).1
  rw [Nat.add_assoc]
  refine HCT.o _ _ ?_
  rw [flat4_get d.tb k j hkl2 hj, ← hx1]
  exact hu)
 have HXK : Hd ((BsF 0 c.w0 (tbG d.tb k).sl ∧ (tbG d.tb k).t.fits) ∧ (tbG d.tb k).td.ok = true) := (show _ ∧ _ by rw [hx1]; exact ⟨HTR.o.2.2 _ hx2, HTO.o _ hx2⟩)
 have HSU : Hd (bs ++ vTx d.v.b ++ [123, 32] ++ catN (k + 1) (fun i => tTx (tbG d.tb i)) = (bs ++ vTx d.v.b ++ [123, 32] ++ catN k (fun i => tTx (tbG d.tb i))) ++ tTx (tbG d.tb k)) := (show bs ++ vTx d.v.b ++ [123, 32] ++ (catN k _ ++ tTx (tbG d.tb k)) = _ by rw [← List.append_assoc])
 clear hx1 hx2 hkl2
 go_wp2_with (with_reducible refine wpl_at ?_; refine wpList_load_mid rfl 93 _ rfl _ _ rfl [.int .i64 (tbG d.tb k).t.k, .slice (tbG d.tb k).t.a (tbG d.tb k).t.len (tbG d.tb k).t.cap, .int .i64 (tbG d.tb k).t.n, .int .i64 (tbG d.tb k).t.s] _ hcx Tryz.underlying93 rfl (by kernel_rfl) ?_; try simp only [Act.put, sA, zA, cA])
 clear hcx
 refine (term_any c (tbG d.tb k) v' _ _ (HSr.o.wq.below (bl_a _)) HT.o HXK.o.1 HXK.o.2 (by have q1 := HVL.o; (try simp only [lA, lC, lN]); omega)).mono ?_
 rintro e z5 ⟨v5, rfl, hQ5, hK5⟩
 have HS5 : Hd (WS c w v v5 (bs ++ vTx d.v.b ++ [123, 32] ++ catN (k + 1) (fun i => tTx (tbG d.tb i))) d.cl z5) := (show WS _ _ _ _ _ _ _ by rw [HSU.o]; exact (HSr.o.below (bl_a _)).step hQ5 hK5)
 clear hQ5 hK5 HSr
 go_wp2_with fail
 go_roundw
 case rel => exact ⟨k + 1, v5, by omega, by go_num, HS5⟩
 case measure => simp [intOf]; omega
end Go.Proofs.YthljoojcpbignaaGreatDoor
