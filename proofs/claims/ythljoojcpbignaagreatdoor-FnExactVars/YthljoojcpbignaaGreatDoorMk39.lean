import Derived.Test.YthljoojcpbignaaGreatDoorMk38
namespace Go.Proofs.YthljoojcpbignaaGreatDoor
open Go.RowKit Go.Deep
set_option maxHeartbeats 40000000
set_option maxRecDepth 100000
def uWord (k : Nat) : ByteArray := if k = 0 then ⟨#[79, 80, 84, 73, 79, 78, 65, 76]⟩ else if k = 1 then ⟨#[85, 78, 73, 79, 78]⟩ else if k = 2 then ⟨#[77, 73, 78, 85, 83]⟩ else if k = 3 then ⟨#[70, 73, 76, 84, 69, 82]⟩ else if k = 4 then ⟨#[66, 73, 78, 68]⟩ else ⟨#[86, 65, 76, 85, 69, 83]⟩
def uRd (k : Nat) : Nat := if k = 0 then 148 else if k = 1 then 151 else if k = 2 then 148 else if k = 3 then 153 else if k = 4 then 155 else 157
def uFn (k : Nat) : Nat := if k = 0 then 150 else if k = 1 then 152 else if k = 2 then 150 else if k = 3 then 154 else if k = 4 then 156 else 158
def uCells (k : Nat) : List Value := [.string (uWord k), .int .i64 ((k : Int) + 1), .func (.func (uRd k)) #[] #[], .func (.func (uFn k)) #[] #[]]
theorem uFn_call (k : Nat) (args : Array Value) (w : World) : (callFunc (uFn k) args).run Tryz.prog w = .ok (.enter (uFn k) args) w := by
 unfold uFn
 split
 · exact call_enter Tryz.func150 (by kernel_rfl) rfl args w
 split
 · exact call_enter Tryz.func152 (by kernel_rfl) rfl args w
 split
 · exact call_enter Tryz.func150 (by kernel_rfl) rfl args w
 split
 · exact call_enter Tryz.func154 (by kernel_rfl) rfl args w
 split
 · exact call_enter Tryz.func156 (by kernel_rfl) rfl args w
 exact call_enter Tryz.func158 (by kernel_rfl) rfl args w
theorem uWord_len (k : Nat) : 0 < (uWord k).size ∧ (uWord k).size ≤ 8 := by
 unfold uWord
 repeat' split
 all_goals exact ⟨by decide, by decide⟩
def URules (c : WC) (r1 : Nat) : Prop := c.G[0]? = some (.slice (some ⟨r1, 0, none⟩) 6 6) ∧ ∀ k, k < 6 → ∀ i u, (uCells k)[i]? = some u → c.RT ⟨r1, k * 4 + i, none⟩ u
theorem elem_of (c : WC) (d : UN) (r1 : Nat) (v : Value) (bs : List Int) (w : World) (h : WQ c w v bs) (ht : Tab c.w0) (hX : URules c r1) (hp : d.p.lies 0 c.w0) (hN : NodeU d) (hn : bs.length ≤ 900000) (tx : List Int)
 (h0x : d.k = 0 → tx = itTx d.p.s ++ (itTx d.p.p ++ (itTx d.p.o ++ [46, 32])))
 (HW : ∀ k : Nat, k < 6 → (k : Int) + 1 = d.k → ∃ R, (numsOf (uWord k) ++ [32]) ++ R = tx ∧ ∀ (v : Value) (bs' : List Int) (W : World), WQ c W v bs' → bs'.length ≤ bs.length + 20 → Calls Tryz.prog (uFn k) #[.pointer (some ⟨c.g, 0, none⟩), .agg d.ar] W (PutQ c v (bs' ++ R) W)) :
 Calls Tryz.prog 119 #[.pointer (some ⟨c.g, 0, none⟩), .agg d.ar] w (PutQ c v (bs ++ tx) w) := by
 try unfold UN.ar
 have HKB : Hd (0 ≤ d.k ∧ d.k ≤ 6) := ⟨hN.k0, hN.k6⟩
 have HS0 := iH (WS.new h d.ar 103)
 have HG := iH hX.1
 have HRX := iH hX.2
 have HWX := iH HW
 have HT := iH ht
 have HP : Hd (d.p.lies 0 c.w0 ∧ (d.k = 0 → ptOk d.p)) := ⟨hp, hN.p1⟩
 have HE0 := iH h0x
 obtain ⟨R, hRR⟩ : ∃ R, R = bs ++ tx := ⟨_, rfl⟩
 have HRE := iH hRR
 rw [← hRR]
 clear h ht hX hp hN HW hRR h0x
 go_in
 go_upto_region 1 with fail
 generalize (w.alloc (.cells d.ar 103)) = W1 at *
 have x0 := HS0.o.bx.2 0 _ rfl
 by_cases h0 : d.k = 0
 · have lp := HS0.o.bx.range 1 d.p.cl rfl
   have k0 : (d.k == 0) = true := by simp [h0]
   have HPO := iH (HP.o.2 h0)
   have HTX : Hd (bs ++ itTx d.p.s ++ itTx d.p.p ++ itTx d.p.o ++ [46, 32] = R) := (show _ = _ by rw [HRE.o, HE0.o h0]; simp)
   clear h0
   go_wp2_with (with_reducible refine wpq_at ?_; refine ldr rfl rfl rfl Tryz.underlying97 lp rfl ?_; try simp only [Act.put, sA, zA, cA])
   refine (pat_any c d.p v bs _ HS0.o.wq HT.o HP.o.1 HPO.o (by omega)).mono ?_
   rintro e z1 ⟨v1, rfl, hQ1, hK1⟩
   have HS1 : Hd (WS c w v v1 (R) d.cl z1) := (show WS _ _ _ _ _ _ _ by rw [← HTX.o]; exact HS0.o.step hQ1 hK1)
   clear hQ1 hK1 HS0 x0 lp
   go_wp2
   go_end0
   exact HS1.o.put
 have k0 : (d.k == 0) = false := by simp [h0]
 have HK0 : Hd (1 ≤ d.k) := (show _ ≤ _ by have := HKB.o; omega)
 have g1 := HS0.o.wq.gr 0 _ (by omega) HG.o
 clear h0
 go_wp2_with fail
 clear g1 x0
 go_loopw [19] (fun i wr => ∃ (k : Nat) (v' : Value), k ≤ 6 ∧ i = .int .i64 k ∧ Hd (WS c w v v' ((if d.k < (k : Int) + 1 then R else bs)) [.int .i64 d.k, .slice d.p.s.v.a d.p.s.v.len d.p.s.v.cap, .int .i64 d.p.s.t.t.k, .slice d.p.s.t.t.a d.p.s.t.t.len d.p.s.t.t.cap, .int .i64 d.p.s.t.t.n, .int .i64 d.p.s.t.t.s, .slice d.p.p.v.a d.p.p.v.len d.p.p.v.cap, .int .i64 d.p.p.t.t.k, .slice d.p.p.t.t.a d.p.p.t.t.len d.p.p.t.t.cap, .int .i64 d.p.p.t.t.n, .int .i64 d.p.p.t.t.s, .slice d.p.o.v.a d.p.o.v.len d.p.o.v.cap, .int .i64 d.p.o.t.t.k, .slice d.p.o.t.t.a d.p.o.t.t.len d.p.o.t.t.cap, .int .i64 d.p.o.t.t.n, .int .i64 d.p.o.t.t.s, .int .i64 d.e.d.k, .int .i64 d.e.d.op, .slice d.e.d.v.a d.e.d.v.len d.e.d.v.cap, .int .i64 d.e.d.t.t.k, .slice d.e.d.t.t.a d.e.d.t.t.len d.e.d.t.t.cap, .int .i64 d.e.d.t.t.n, .int .i64 d.e.d.t.t.s, .slice d.e.d.ka d.e.d.n d.e.d.kc, .slice d.v.a d.v.len d.v.cap, .slice d.ta d.tb.length d.tc, .slice d.aa d.an d.ac, .slice d.ba d.bn d.bc] wr)) (fun i _ => 6 - (intOf i).toNat)
 case atStart => exact ⟨0, v, nZ, rfl, (show Hd (WS _ _ _ _ _ _ _) by rw [if_neg (show ¬ d.k < ((0 : Nat) : Int) + 1 by have := HK0.o; omega)]; exact HS0)⟩
 clear HS0
 obtain ⟨k, v', hk, rfl, HSr⟩ := hrel
 by_cases hlk : k < 6
 rotate_left
 · obtain rfl : k = 6 := by omega
   have HSE := iH (show WS _ _ _ _ _ _ _ by have h1 := HSr.o; rw [if_pos (show d.k < ((6 : Nat) : Int) + 1 by have := HKB.o; omega)] at h1; exact h1)
   clear HSr
   go_wp2
   go_end0
   exact HSE.o.put
 have hlkz : (k : Int) < 6 := by omega
 obtain ⟨st, hst⟩ : ∃ st, st = uWord k := ⟨_, rfl⟩
 obtain ⟨kk, hkk⟩ : ∃ kk : Int, kk = (k : Int) + 1 := ⟨_, rfl⟩
 obtain ⟨rd, hrd⟩ : ∃ rd, rd = uRd k := ⟨_, rfl⟩
 obtain ⟨wf, hwf⟩ : ∃ wf, wf = uFn k := ⟨_, rfl⟩
 have hcx : wr.rangeAt r1 (k * 4) (rL st kk rd wf) := fun i u hu => (HSr.o.wq.rt ⟨r1, k * 4 + i, none⟩ u (HRX.o k hlk i u (by rw [← hu, hst, hkk, hrd, hwf]; rfl))).2.2
 have HKQ := iH hkk
 have HWF : Hd (wf = uFn k ∧ st = uWord k) := ⟨hwf, hst⟩
 clear hst hkk hrd hwf
 have hth := (OB.new wr #[.string ⟨#[]⟩, .int .i64 0, .nilFunc, .nilFunc] 205).there 0 4 (by simp)
 have one1 := rule_one st kk rd wf
 have HBk : Hd (Bl wr ((wr.alloc (.cells #[.string ⟨#[]⟩, .int .i64 0, .nilFunc, .nilFunc] 205)).setCells wr.heap.size 0 (rL st kk rd wf))) := below_sets _ nR _ _ _ (bl_a _)
 have HS5 := iH (HSr.o.below HBk.o)
 have HI5 : Hd (WS c wr v' v' (if d.k < (k : Int) + 1 then R else bs) (rL st kk rd wf) ((wr.alloc (.cells #[.string ⟨#[]⟩, .int .i64 0, .nilFunc, .nilFunc] 205)).setCells wr.heap.size 0 (rL st kk rd wf))) := ⟨HSr.o.wq.below HBk.o, KQ.of_below HBk.o, ((OB.new wr #[.string ⟨#[]⟩, .int .i64 0, .nilFunc, .nilFunc] 205).put (rL st kk rd wf) 0 (rL st kk rd wf) (show 0 + 4 ≤ 4 by omega) rfl).box, fun e => by have := (HSr.o.wq.own.2 _ e).2; omega, HSr.o.wq.lt⟩
 go_wp2_with (first | (with_reducible refine wpq_at ?_; refine wpList_load_mid rfl 205 _ rfl r1 (k * 4) rfl (rL st kk rd wf) _ hcx Tryz.underlying205 rfl (by kernel_rfl) ?_; try simp only [Act.put, sA, zA, cA]) | (with_reducible refine wpq_at ?_; refine store_stop 205 (.tmp 5) (.tmp 22) rfl ?_))
 change wpList _ _ _ _ _ _
 refine wpList_store_mid rfl 205 _ _ rfl wr.heap.size 0 (rA st kk rd wf) rfl rfl hth (by kernel_rfl) one1 ?_
 try simp only [Act.put]
 generalize ((wr.alloc (.cells #[.string ⟨#[]⟩, .int .i64 0, .nilFunc, .nilFunc] 205)).setCells wr.heap.size 0 (rL st kk rd wf)) = W5 at *
 clear hcx hth one1 HBk HSr
 have y0 := HS5.o.bx.2 0 _ rfl
 have y1 := HI5.o.bx.2 1 _ rfl
 by_cases hj : kk = d.k
 · have kq : (kk == d.k) = true := by simp [hj]
   have HJ : Hd ((k : Int) + 1 = d.k) := (show _ = _ by rw [← HKQ.o]; exact hj)
   have ej : (if d.k < (k : Int) + 1 then R else bs) = bs := if_neg (by have := HJ.o; omega)
   rw [ej] at HS5 HI5
   obtain ⟨R1, hR1, hW1⟩ := HWX.o k hlk HJ.o
   rw [← HWF.o.1] at hW1
   rw [← HWF.o.2] at hR1
   have HW1 := iH hW1
   have HR1 : Hd (bs ++ (numsOf st ++ [32]) ++ R1 = R) := (show _ = _ by rw [HRE.o, ← hR1]; simp)
   have HST : Hd (0 < st.size ∧ st.size ≤ 8) := (show _ ∧ _ by rw [HWF.o.2]; exact uWord_len k)
   clear ej hR1 hW1 hj
   have ys := HI5.o.bx.2 0 _ rfl
   go_wp2_with fail
   clear y0 y1 ys
   refine (put1 c st v' bs _ HI5.o.wq HST.o.1 (by have := HST.o.2; omega)).mono ?_
   rintro e z6 ⟨v6, rfl, hQ6, hK6⟩
   have HS6 := iH (HS5.o.step hQ6 hK6)
   have HI6 := iH (HI5.o.step hQ6 hK6)
   clear hQ6 hK6 HS5 HI5
   have y3 := HI6.o.bx.2 3 _ rfl
   have ld := HS6.o.bx.range 0 d.cl rfl
   have cf : (callFunc wf #[.pointer (some ⟨c.g, 0, none⟩), .agg d.ar]).run Tryz.prog z6 = .ok (.enter wf #[.pointer (some ⟨c.g, 0, none⟩), .agg d.ar]) z6 := by rw [HWF.o.1]; exact uFn_call k _ _
   go_wp2_with (with_reducible refine wpq_at ?_; refine ldr rfl rfl rfl Tryz.underlying103 ld rfl ?_; try simp only [Act.put, sA, zA, cA])
   clear ld y3 cf
   refine (HW1.o v6 _ _ HS6.o.wq (by have := HST.o.2; simp only [List.length_append, List.length_cons, List.length_nil, numsOf_len]; omega)).mono ?_
   rintro e z7 ⟨v7, rfl, hQ7, hK7⟩
   have HS7 : Hd (WS c w v v7 ((if d.k < ((k + 1 : Nat) : Int) + 1 then R else bs)) d.cl z7) := (show WS _ _ _ _ _ _ _ by rw [if_pos (by have := HJ.o; omega), ← HR1.o]; exact HS6.o.step hQ7 hK7)
   clear hQ7 hK7 HS6 HI6
   go_wp2
   go_roundw
   case rel => exact ⟨k + 1, v7, by omega, by go_num, HS7⟩
   case measure => simp [intOf]; omega
 have kq : (kk == d.k) = false := by simp [hj]
 have HS7 : Hd (WS c w v v' ((if d.k < ((k + 1 : Nat) : Int) + 1 then R else bs)) d.cl W5) := (show WS _ _ _ _ _ _ _ by
  have h1 := HS5.o
  have h2 := HKQ.o
  by_cases h3 : d.k < (k : Int) + 1
  · rw [if_pos h3] at h1
    rw [if_pos (by omega)]
    exact h1
  rw [if_neg h3] at h1
  rw [if_neg (by omega)]
  exact h1)
 clear HS5 HI5 hj
 go_wp2
 go_roundw
 case rel => exact ⟨k + 1, v', by omega, by go_num, HS7⟩
 case measure => simp [intOf]; omega
end Go.Proofs.YthljoojcpbignaaGreatDoor
