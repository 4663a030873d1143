import Derived.Test.YthljoojcpbignaaGreatDoorMk40
namespace Go.Proofs.YthljoojcpbignaaGreatDoor
open Go.RowKit Go.Deep
set_option maxHeartbeats 40000000
set_option maxRecDepth 100000
def tWord (k : Nat) : ByteArray := if k = 0 then ⟨#[71, 82, 79, 85, 80]⟩ else if k = 1 then ⟨#[79, 82, 68, 69, 82]⟩ else if k = 2 then ⟨#[76, 73, 77, 73, 84]⟩ else ⟨#[79, 70, 70, 83, 69, 84]⟩
def tIs (k : Nat) : Nat := if k = 0 then 170 else if k = 1 then 175 else if k = 2 then 180 else 185
def tRd (k : Nat) : Nat := if k = 0 then 171 else if k = 1 then 176 else if k = 2 then 181 else 186
def tFn (k : Nat) : Nat := if k = 0 then 173 else if k = 1 then 178 else if k = 2 then 183 else 187
def tCells (k : Nat) : List Value := [.string (tWord k), .func (.func (tIs k)) #[] #[], .func (.func (tRd k)) #[] #[], .func (.func (tFn k)) #[] #[]]
theorem tWord_len (k : Nat) : 0 < (tWord k).size ∧ (tWord k).size ≤ 6 := by
 unfold tWord
 repeat' split
 all_goals exact ⟨by decide, by decide⟩
theorem tail_one (st : ByteArray) (a rd wf : Nat) : (#[.string st, .func (.func a) #[] #[], .func (.func rd) #[] #[], .func (.func wf) #[] #[]] : Array Value).all (·.oneCell') = true := all_oneCell_toArray (cs := [.string st, .func (.func a) #[] #[], .func (.func rd) #[] #[], .func (.func wf) #[] #[]]) (by intro v hv; simp only [List.mem_cons, List.not_mem_nil, or_false] at hv; rcases hv with rfl | rfl | rfl | rfl <;> rfl)
theorem tIs_call (k : Nat) (args : Array Value) (w : World) : (callFunc (tIs k) args).run Tryz.prog w = .ok (.enter (tIs k) args) w := by
 unfold tIs
 split
 · exact call_enter Tryz.func170 (by kernel_rfl) rfl args w
 split
 · exact call_enter Tryz.func175 (by kernel_rfl) rfl args w
 split
 · exact call_enter Tryz.func180 (by kernel_rfl) rfl args w
 exact call_enter Tryz.func185 (by kernel_rfl) rfl args w
theorem tFn_call (k : Nat) (args : Array Value) (w : World) : (callFunc (tFn k) args).run Tryz.prog w = .ok (.enter (tFn k) args) w := by
 unfold tFn
 split
 · exact call_enter Tryz.func173 (by kernel_rfl) rfl args w
 split
 · exact call_enter Tryz.func178 (by kernel_rfl) rfl args w
 split
 · exact call_enter Tryz.func183 (by kernel_rfl) rfl args w
 exact call_enter Tryz.func187 (by kernel_rfl) rfl args w
def uAll : List Value := uCells 0 ++ uCells 1 ++ uCells 2 ++ uCells 3 ++ uCells 4 ++ uCells 5
def xAll : List Value := xCells 0 ++ xCells 1 ++ xCells 2 ++ xCells 3 ++ xCells 4 ++ xCells 5
def tAll : List Value := tCells 0 ++ tCells 1 ++ tCells 2 ++ tCells 3
theorem elemRules_any (w : World) : Calls Tryz.prog 115 #[] w fun e w' => e = .returned (.slice (some ⟨w.heap.size, 0, none⟩) 6 6) ∧ Box w' w.heap.size uAll ∧ Bl w w' := by
 go_in
 go_wp2
 go_ret
 exact ⟨rfl, Box.new w uAll.toArray _ _, bl_a _⟩
theorem uAll_at {k i : Nat} {u : Value} (hk : k < 6) (h : (uCells k)[i]? = some u) : uAll[k * 4 + i]? = some u := by
 have hi : i < 4 := (List.getElem?_eq_some_iff.1 h).1
 rcases (by omega : k = 0 ∨ k = 1 ∨ k = 2 ∨ k = 3 ∨ k = 4 ∨ k = 5) with rfl | rfl | rfl | rfl | rfl | rfl <;> rcases (by omega : i = 0 ∨ i = 1 ∨ i = 2 ∨ i = 3) with rfl | rfl | rfl | rfl <;> exact h
theorem exprRules_any (w : World) : Calls Tryz.prog 116 #[] w fun e w' => e = .returned (.slice (some ⟨w.heap.size, 0, none⟩) 6 6) ∧ Box w' w.heap.size xAll ∧ Bl w w' := by
 go_in
 go_wp2
 go_ret
 exact ⟨rfl, Box.new w xAll.toArray _ _, bl_a _⟩
theorem xAll_at {k i : Nat} {u : Value} (hk : k < 6) (h : (xCells k)[i]? = some u) : xAll[k * 4 + i]? = some u := by
 have hi : i < 4 := (List.getElem?_eq_some_iff.1 h).1
 rcases (by omega : k = 0 ∨ k = 1 ∨ k = 2 ∨ k = 3 ∨ k = 4 ∨ k = 5) with rfl | rfl | rfl | rfl | rfl | rfl <;> rcases (by omega : i = 0 ∨ i = 1 ∨ i = 2 ∨ i = 3) with rfl | rfl | rfl | rfl <;> exact h
theorem tailRules_any (w : World) : Calls Tryz.prog 117 #[] w fun e w' => e = .returned (.slice (some ⟨w.heap.size, 0, none⟩) 4 4) ∧ Box w' w.heap.size tAll ∧ Bl w w' := by
 go_in
 go_wp2
 go_ret
 exact ⟨rfl, Box.new w tAll.toArray _ _, bl_a _⟩
theorem tAll_at {k i : Nat} {u : Value} (hk : k < 4) (h : (tCells k)[i]? = some u) : tAll[k * 4 + i]? = some u := by
 have hi : i < 4 := (List.getElem?_eq_some_iff.1 h).1
 rcases (by omega : k = 0 ∨ k = 1 ∨ k = 2 ∨ k = 3) with rfl | rfl | rfl | rfl <;> rcases (by omega : i = 0 ∨ i = 1 ∨ i = 2 ∨ i = 3) with rfl | rfl | rfl | rfl <;> exact h
theorem past_sets (g : Nat) : ∀ (vs : List Value) (o : Nat) (w : World), Past g w (w.setCells g o vs)
 | [], _, w => Past.refl g w
 | v :: vs, o, w => ((Past.refl g w).set o v).trans (past_sets g vs (o + 1) (w.setCell ⟨g, o, none⟩ v))
structure Tabs (w : World) (r1 r2 r3 : Nat) : Prop where
 u : Box w r1 uAll
 x : Box w r2 xAll
 t : Box w r3 tAll
theorem grammarOf_any (w : World) : Calls Tryz.prog 77 #[] w fun e w' => ∃ r1 r2 r3, e = .returned (.agg #[.slice (some ⟨r1, 0, none⟩) 6 6, .slice (some ⟨r2, 0, none⟩) 6 6, .slice (some ⟨r3, 0, none⟩) 4 4]) ∧ Tabs w' r1 r2 r3 ∧ Bl w w' := by
 obtain ⟨W0, hW0⟩ : ∃ W0, W0 = w.alloc (.cells #[.slice none 0 0, .slice none 0 0, .slice none 0 0] 135) := ⟨_, rfl⟩
 have HB0 : Hd (Bl w W0) := (show Below _ _ _ by rw [hW0]; exact bl_a _)
 have HLT : Hd (w.heap.size < W0.heap.size) := (show _ < _ by rw [hW0]; simp)
 have HBX : Hd (OB W0 w.heap.size [.slice none 0 0, .slice none 0 0, .slice none 0 0]) := (show OB _ _ _ by rw [hW0]; exact OB.new w _ 135)
 go_in
 go_upto_region 1 with fail
 rw [← hW0]
 clear hW0
 go_wp2_with fail
 refine (elemRules_any W0).mono ?_
 rintro e w1 ⟨rfl, hx1, hb1⟩
 have H1 := iH hx1
 have HB1 := iH hb1
 clear hx1 hb1
 go_wp2_with fail
 refine (exprRules_any w1).mono ?_
 rintro e w2 ⟨rfl, hx2, hb2⟩
 have H2 := iH hx2
 have HB2 := iH hb2
 clear hx2 hb2
 go_wp2_with fail
 refine (tailRules_any w2).mono ?_
 rintro e w3 ⟨rfl, hx3, hb3⟩
 have H3 := iH hx3
 have HB3 := iH hb3
 have HOB := iH (((HBX.o.below HB1.o).below HB2.o).below hb3)
 have HTB : Hd (Tabs w3 W0.heap.size w1.heap.size w2.heap.size) := ⟨(H1.o.below HB2.o).below hb3, H2.o.below hb3, hx3⟩
 have HBA := iH (bl_trans (bl_trans (bl_trans HB0.o HB1.o) HB2.o) hb3)
 clear hx3 hb3 H1 H2 H3 HBX
 have hth := HOB.o.there 0 3 (by simp)
 have one1 := all_oneCell_toArray (cs := [.slice (some ⟨W0.heap.size, 0, none⟩) 6 6, .slice (some ⟨w1.heap.size, 0, none⟩) 6 6, .slice (some ⟨w2.heap.size, 0, none⟩) 4 4]) (by intro v hv; simp only [List.mem_cons, List.not_mem_nil, or_false] at hv; rcases hv with rfl | rfl | rfl <;> rfl)
 go_wp2_with (with_reducible refine wpq_at ?_; refine store_stop 135 (.tmp 0) (.tmp 4) rfl ?_)
 change wpList _ _ _ _ _ _
 refine wpList_store_mid rfl 135 _ _ rfl w.heap.size 0 #[.slice (some ⟨W0.heap.size, 0, none⟩) 6 6, .slice (some ⟨w1.heap.size, 0, none⟩) 6 6, .slice (some ⟨w2.heap.size, 0, none⟩) 4 4] rfl rfl hth (by kernel_rfl) one1 ?_
 try simp only [Act.put]
 have HX5 := iH ((HOB.o.put [.slice _ 6 6, .slice _ 6 6, .slice _ 4 4] 0 [.slice (some ⟨W0.heap.size, 0, none⟩) 6 6, .slice (some ⟨w1.heap.size, 0, none⟩) 6 6, .slice (some ⟨w2.heap.size, 0, none⟩) 4 4] (show 0 + 3 ≤ 3 by omega) rfl).box)
 have HB5 : Hd (Bl w (w3.setCells w.heap.size 0 [.slice (some ⟨W0.heap.size, 0, none⟩) 6 6, .slice (some ⟨w1.heap.size, 0, none⟩) 6 6, .slice (some ⟨w2.heap.size, 0, none⟩) 4 4])) := below_sets _ nR _ _ _ HBA.o
 have HP5 : Hd (Past w.heap.size w3 (w3.setCells w.heap.size 0 [.slice (some ⟨W0.heap.size, 0, none⟩) 6 6, .slice (some ⟨w1.heap.size, 0, none⟩) 6 6, .slice (some ⟨w2.heap.size, 0, none⟩) 4 4])) := past_sets _ _ _ _
 generalize (w3.setCells w.heap.size 0 [.slice (some ⟨W0.heap.size, 0, none⟩) 6 6, .slice (some ⟨w1.heap.size, 0, none⟩) 6 6, .slice (some ⟨w2.heap.size, 0, none⟩) 4 4]) = W5 at *
 have hrd := HX5.o.range 0 [.slice (some ⟨W0.heap.size, 0, none⟩) 6 6, .slice (some ⟨w1.heap.size, 0, none⟩) 6 6, .slice (some ⟨w2.heap.size, 0, none⟩) 4 4] rfl
 clear hth one1
 go_wp2_with fail
 refine bodyPost_ret (v := .agg #[.slice (some ⟨W0.heap.size, 0, none⟩) 6 6, .slice (some ⟨w1.heap.size, 0, none⟩) 6 6, .slice (some ⟨w2.heap.size, 0, none⟩) 4 4]) ?hr rfl ?hp
 case hr => exact results_cell rfl rfl (run_loadVar_mid (P := Tryz.prog) _ w.heap.size 0 135 [.slice (some ⟨W0.heap.size, 0, none⟩) 6 6, .slice (some ⟨w1.heap.size, 0, none⟩) 6 6, .slice (some ⟨w2.heap.size, 0, none⟩) 4 4] _ hrd Tryz.underlying135 rfl (by kernel_rfl))
 have hz := HB0.o.size
 have h0 := HLT.o
 have h1 := HB1.o.size
 have h2 := HB2.o.size
 refine ⟨_, _, _, rfl, ⟨HTB.o.u.past HP5.o (by omega), HTB.o.x.past HP5.o (by omega), HTB.o.t.past HP5.o (by omega)⟩, HB5.o⟩
def rTx (x : QY) (k : Nat) : List Int := if k = 0 then grpTx x ++ catN x.gn (fun i => vTx (x.grp i).b) else if k = 1 then ordTx x ++ catN x.on (fun i => keyTx (x.key i)) else if k = 2 then limTx x else offTx x
theorem rTx_all (x : QY) : catN 4 (rTx x) = tailTx x := by
 show (((([] ++ rTx x 0) ++ rTx x 1) ++ rTx x 2) ++ rTx x 3) = _
 simp [rTx, tailTx]
theorem rTx_no {x : QY} {k : Nat} (hk : k < 4) (h : ¬ InR x k) : rTx x k = [] := by
 rcases (by omega : k = 0 ∨ k = 1 ∨ k = 2 ∨ k = 3) with rfl | rfl | rfl | rfl
 · have h : ¬ 0 < x.gn := h
   have h0 : x.gn = 0 := by omega
   show grpTx x ++ catN x.gn (fun i => vTx (x.grp i).b) = []
   unfold grpTx
   rw [if_neg h, h0]
   rfl
 · have h : ¬ 0 < x.on := h
   have h0 : x.on = 0 := by omega
   show ordTx x ++ catN x.on (fun i => keyTx (x.key i)) = []
   unfold ordTx
   rw [if_neg h, h0]
   rfl
 · have h : ¬ x.lim ≠ -1 := h
   show limTx x = []
   unfold limTx
   rw [if_neg (by omega)]
 have h : ¬ 0 < x.off := h
 show offTx x = []
 unfold offTx
 rw [if_neg h]
theorem rTx_len {x : QY} (hs : SayQ x) {k : Nat} (hk : k < 4) : (rTx x k).length ≤ 100 := by
 rcases (by omega : k = 0 ∨ k = 1 ∨ k = 2 ∨ k = 3) with rfl | rfl | rfl | rfl
 · show (grpTx x ++ catN x.gn (fun i => vTx (x.grp i).b)).length ≤ 100
   have h1 := grp_len x
   have h2 := grps_len hs (Nat.le_refl x.gn)
   rw [List.length_append]
   omega
 · show (ordTx x ++ catN x.on (fun i => keyTx (x.key i))).length ≤ 100
   have h1 := ord_len x
   have h2 := keys_len hs (Nat.le_refl x.on)
   rw [List.length_append]
   omega
 · show (limTx x).length ≤ 100
   unfold limTx
   split
   · have h1 := digitsL_most (n := x.lim.toNat) (by have := hs.lim; omega)
     simp only [numTx, List.length_append, List.length_cons, List.length_nil]
     omega
   simp
 show (offTx x).length ≤ 100
 unfold offTx
 split
 · have h1 := digitsL_most (n := x.off.toNat) (by have := hs.off; omega)
   simp only [numTx, List.length_append, List.length_cons, List.length_nil]
   omega
 simp
theorem isIn_any (x : QY) {k : Nat} (hk : k < 4) (w : World) : Calls Tryz.prog (tIs k) #[.agg x.ar] w (Tells (InR x k) w) := by
 rcases (by omega : k = 0 ∨ k = 1 ∨ k = 2 ∨ k = 3) with rfl | rfl | rfl | rfl
 · exact isIn0 x w
 · exact isIn1 x w
 · exact isIn2 x w
 exact isIn3 x w
theorem tail_any (c : WC) (x : QY) (ht : Tab c.w0) (hx : x.lies 0 c.w0) (hs : SayQ x) {k : Nat} (hk : k < 4) (h : InR x k) : ∃ R, (numsOf (tWord k) ++ [32]) ++ R = rTx x k ∧ ∀ (v : Value) (bs : List Int) (W : World), WQ c W v bs → bs.length ≤ 900000 → Calls Tryz.prog (tFn k) #[.pointer (some ⟨c.g, 0, none⟩), .agg x.ar] W (PutQ c v (bs ++ R) W) := by
 try unfold QY.ar
 rcases (by omega : k = 0 ∨ k = 1 ∨ k = 2 ∨ k = 3) with rfl | rfl | rfl | rfl
 · have h : 0 < x.gn := h
   refine ⟨catN x.gn _, ?_, fun v bs W hW hb => tail0 c x v bs W hW hx.g.1 hs.g.1 (fun i hi => ⟨hx.g.2.1 i hi, hs.g.2 i hi⟩) hb⟩
   show _ = grpTx x ++ catN x.gn (fun i => vTx (x.grp i).b)
   unfold grpTx
   rw [if_pos h]
   rfl
 · have h : 0 < x.on := h
   refine ⟨catN x.on _, ?_, fun v bs W hW hb => tail1 c x v bs W hW hx.o.1 hs.o.1 (fun i hi => ⟨hx.o.2.1 i hi, hs.o.2 i hi⟩) hb⟩
   show _ = ordTx x ++ catN x.on (fun i => keyTx (x.key i))
   unfold ordTx
   rw [if_pos h]
   rfl
 · have h : x.lim ≠ -1 := h
   have h0 : 0 ≤ x.lim := by have := hs.lim; omega
   refine ⟨numTx x.lim, ?_, fun v bs W hW hb => tail2 c x v bs W hW ht h0 hs.lim.2 hb⟩
   show _ = limTx x
   unfold limTx
   rw [if_pos h0]
   rfl
 have h : 0 < x.off := h
 refine ⟨numTx x.off, ?_, fun v bs W hW hb => tail3 c x v bs W hW ht hs.off.1 hs.off.2 hb⟩
 show _ = offTx x
 unfold offTx
 rw [if_pos h]
 rfl
def wcOf (w0 w : World) (r1 r2 r3 : Nat) : WC := ⟨w0, w.heap.size + 1, w.heap.size, [.slice (some ⟨r1, 0, none⟩) 6 6, .slice (some ⟨r2, 0, none⟩) 6 6, .slice (some ⟨r3, 0, none⟩) 4 4],
 fun p u => (∃ i, p = ⟨r1, i, none⟩ ∧ uAll[i]? = some u) ∨ (∃ i, p = ⟨r2, i, none⟩ ∧ xAll[i]? = some u) ∨ ∃ i, p = ⟨r3, i, none⟩ ∧ tAll[i]? = some u⟩
theorem wq_new {w0 w : World} {r1 r2 r3 : Nat} (hT : Tabs w r1 r2 r3) (hb : Bl w0 w) (t : TypeId) : WQ (wcOf w0 w r1 r2 r3) (w.alloc (.cells #[.slice (some ⟨r1, 0, none⟩) 6 6, .slice (some ⟨r2, 0, none⟩) 6 6, .slice (some ⟨r3, 0, none⟩) 4 4, .slice none 0 0] t)) (.slice none 0 0) [] := by
 have hbx := Box.new w #[.slice (some ⟨r1, 0, none⟩) 6 6, .slice (some ⟨r2, 0, none⟩) 6 6, .slice (some ⟨r3, 0, none⟩) 4 4, .slice none 0 0] t (0, 0)
 have hal := bl_a (w := w) (.cells #[.slice (some ⟨r1, 0, none⟩) 6 6, .slice (some ⟨r2, 0, none⟩) 6 6, .slice (some ⟨r3, 0, none⟩) 4 4, .slice none 0 0] t)
 refine ⟨fun i u hi hu => hbx.2 i u ?_, fun p u hp => ?_, hbx.2 3 _ rfl, (OB.new w _ t).2 3 _ rfl |>.2, hbx.1, Own8.nil _ _, (fun e => by cases e), Nat.le_succ_of_le hb.size, hb.size, hb.trans (hal.mono hb.size), ?_⟩
 · rcases (by omega : i = 0 ∨ i = 1 ∨ i = 2) with rfl | rfl | rfl <;> exact hu
 · rcases hp with ⟨i, rfl, hu⟩ | ⟨i, rfl, hu⟩ | ⟨i, rfl, hu⟩
   · have h1 := hT.u.1
     exact ⟨Nat.lt_succ_of_lt h1, Nat.ne_of_lt h1, (hal.cell (p := ⟨r1, i, none⟩) h1).trans (hT.u.2 i u hu)⟩
   · have h1 := hT.x.1
     exact ⟨Nat.lt_succ_of_lt h1, Nat.ne_of_lt h1, (hal.cell (p := ⟨r2, i, none⟩) h1).trans (hT.x.2 i u hu)⟩
   have h1 := hT.t.1
   exact ⟨Nat.lt_succ_of_lt h1, Nat.ne_of_lt h1, (hal.cell (p := ⟨r3, i, none⟩) h1).trans (hT.t.2 i u hu)⟩
 show w.heap.size + 1 ≤ (w.alloc _).heap.size
 simp
theorem wc_u (w0 w : World) (r1 r2 r3 : Nat) : URules (wcOf w0 w r1 r2 r3) r1 := ⟨rfl, fun _ hk _ _ h => .inl ⟨_, rfl, uAll_at hk h⟩⟩
theorem wc_x (w0 w : World) (r1 r2 r3 : Nat) : XRules (wcOf w0 w r1 r2 r3) r2 := ⟨rfl, fun _ hk _ _ h => .inr (.inl ⟨_, rfl, xAll_at hk h⟩)⟩
def TRules (c : WC) (r3 : Nat) : Prop := c.G[2]? = some (.slice (some ⟨r3, 0, none⟩) 4 4) ∧ ∀ k, k < 4 → ∀ i u, (tCells k)[i]? = some u → c.RT ⟨r3, k * 4 + i, none⟩ u
theorem wc_t (w0 w : World) (r1 r2 r3 : Nat) : TRules (wcOf w0 w r1 r2 r3) r3 := ⟨rfl, fun _ hk _ _ h => .inr (.inr ⟨_, rfl, tAll_at hk h⟩)⟩
structure TO (c : WC) (x : QY) (p : Nat) (v : Value) (bs : List Int) (W : World) : Prop where
 wq : WQ c W v bs
 bx : Box W p (qC x)
 pg : p < c.g
 gB : c.g < c.B
theorem TO.below {c : WC} {x : QY} {p : Nat} {v : Value} {bs : List Int} {W W' : World} (h : TO c x p v bs W) (hb : Bl W W') : TO c x p v bs W' := ⟨h.wq.below hb, h.bx.below hb, h.pg, h.gB⟩
theorem TO.step {c : WC} {x : QY} {p : Nat} {v v' : Value} {bs bs' : List Int} {W W' : World} (h : TO c x p v bs W) (hQ : WQ c W' v' bs') (hK : KQ c.g v W v' W') : TO c x p v' bs' W' :=
 ⟨hQ, hK.box h.bx (Nat.ne_of_lt h.pg) (fun e => by have := (h.wq.own.2 _ e).1; have := h.pg; have := h.gB; omega), h.pg, h.gB⟩
theorem textOf_any (x : QY) (w : World) (hx : x.lies 0 w) (hs : SayQ x) (hf : ∀ i, i < x.sn → (x.sel i).fn = 0 ∨ (x.sel i).fn = 1 ∨ (x.sel i).fn = 2) (hb : x.ask = true → tailTx x = []) (ht : Tab w) :
 Calls Tryz.prog 46 #[.agg x.ar] w (MadeT w (qTx x)) := by
 try unfold QY.ar
 have HX1 : Hd (Box (w.alloc (.cells x.ar 34)) w.heap.size (qC x)) := Box.new w _ 34 (0, 0)
 have HB1 : Hd (Bl w (w.alloc (.cells x.ar 34))) := bl_a _
 have HZ1 : Hd (w.heap.size < (w.alloc (.cells x.ar 34)).heap.size) := (show _ < _ by simp)
 have HX := iH hx
 have HSQ := iH hs
 have HF := iH hf
 have HT := iH ht
 obtain ⟨A0, hA0⟩ : ∃ A0, A0 = (if x.ask = true then [65, 83, 75, 32] else headTx x) := ⟨_, rfl⟩
 have HA0 := iH hA0
 have HLH : Hd (A0.length ≤ 500) := (show _ ≤ _ by
  rw [hA0]
  split
  · simp
  have h1 := sels_len hs (Nat.le_refl x.sn)
  have h2 := dis_len x
  have h3 := star_len x
  unfold headTx
  simp only [lA, lC, lN]
  omega)
 have HTX : Hd (A0 ++ gTx x.bn x.body ++ catN 4 (rTx x) = qTx x) := (show _ = _ by
  rw [hA0, rTx_all]
  unfold qTx
  by_cases h : x.ask = true
  · rw [if_pos h, if_pos h, hb h, List.append_nil]
  rw [if_neg h, if_neg h])
 have HLG := iH (gTx_len hs)
 have HLK : Hd (∀ k, k ≤ 4 → (catN k (rTx x)).length ≤ 400) := fun k hk => by
  have h1 := catN_most (n := k) (f := rTx x) (m := 100) (fun i hi => rTx_len hs (by omega))
  omega
 have HSUM := iH hs.b.2
 clear hx hs hf hb ht hA0
 go_in
 go_upto_region 1 with fail
 generalize (w.alloc (.cells x.ar 34)) = W1 at *
 go_wp2_with fail
 refine (grammarOf_any _).mono ?_
 rintro e w2 ⟨r1, r2, r3, rfl, hT2, hb2⟩
 have HB2 := iH (bl_trans HB1.o hb2)
 obtain ⟨c, hc⟩ : ∃ c, c = wcOf w w2 r1 r2 r3 := ⟨_, rfl⟩
 have HGZ : Hd (c.g = w2.heap.size ∧ c.B = w2.heap.size + 1 ∧ c.w0 = w) := (show _ by rw [hc]; exact ⟨rfl, rfl, rfl⟩)
 have HT0 : Hd (TO c x w.heap.size (.slice none 0 0) [] (w2.alloc (.cells #[.slice (some ⟨r1, 0, none⟩) 6 6, .slice (some ⟨r2, 0, none⟩) 6 6, .slice (some ⟨r3, 0, none⟩) 4 4, .slice none 0 0] 138))) := (show TO _ _ _ _ _ _ by
  rw [hc]
  refine ⟨wq_new hT2 HB2.o _, (HX1.o.below hb2).below (bl_a _), ?_, Nat.lt_succ_self _⟩
  exact Nat.lt_of_lt_of_le HZ1.o hb2.size)
 have HTT : Hd (∀ k, k < 4 → ∀ i u, (tCells k)[i]? = some u → c.RT ⟨r3, k * 4 + i, none⟩ u) := (show ∀ k, _ by rw [hc]; exact (wc_t w w2 r1 r2 r3).2)
 have HG3 : Hd (c.G[2]? = some (.slice (some ⟨r3, 0, none⟩) 4 4)) := (show _ by rw [hc]; exact (wc_t w w2 r1 r2 r3).1)
 have HSW : Hd (SayW c x.ba x.bc x.bn x.body) := (show SayW _ _ _ _ _ by
  rw [hc]
  exact group_of _ x.ba x.bc x.bn x.body HX.o.b.2.2 HX.o.b.1 (fun i hi => uTx_len (HSQ.o.b.1 i hi)) fun i hi => sayL_any _ r1 r2 HT.o (wc_u w w2 r1 r2 r3) (wc_x w w2 r1 r2 r3) (x.body i) 1 (HX.o.b.2.1 i hi) (HSQ.o.b.1 i hi))
 have HTL : Hd (∀ k, k < 4 → InR x k → ∃ R, (numsOf (tWord k) ++ [32]) ++ R = rTx x k ∧ ∀ (v : Value) (bs : List Int) (W : World), WQ c W v bs → bs.length ≤ 900000 → Cl (tFn k) #[.pointer (some ⟨c.g, 0, none⟩), .agg x.ar] W (PutQ c v (bs ++ R) W)) := (show ∀ k, _ by rw [hc]; exact fun k hk h => tail_any _ x HT.o HX.o HSQ.o hk h)
 have HSE : Hd (∀ (v : Value) (W : World), WQ c W v [] → Cl 79 #[.pointer (some ⟨c.g, 0, none⟩), .agg x.ar] W (PutQ c v ([] ++ headTx x) W)) := (show ∀ v, _ by rw [hc]; exact fun v W hW => selection_any _ x v [] W hW HX.o.s.1 HSQ.o.s.1 (fun i hi => ⟨HX.o.s.2.1 i hi, HF.o i hi, HSQ.o.s.2 i hi⟩) (by simp))
 have HBB : Hd (w.heap.size + 1 ≤ c.B) := (show _ ≤ _ by have h1 := HGZ.o.2.1; have h2 := HB2.o.size; omega)
 have EG := HGZ.o.1
 have EW := iH HGZ.o.2.2
 clear hT2 hb2 hc HX1 HB1 HZ1 HX HSQ HF HT HGZ
 go_upto_region 2 with fail
 rw [← EG]
 clear EG
 generalize (w2.alloc (.cells #[.slice (some ⟨r1, 0, none⟩) 6 6, .slice (some ⟨r2, 0, none⟩) 6 6, .slice (some ⟨r3, 0, none⟩) 4 4, .slice none 0 0] 138)) = W3 at *
 obtain ⟨dd, hdd⟩ : ∃ dd, dd = x.ask := ⟨_, rfl⟩
 have HDD := iH hdd.symm
 have y0 : W3.cell? ⟨w.heap.size, 0, none⟩ = some (.bool dd) := by rw [hdd]; exact HT0.o.bx.2 0 _ rfl
 clear hdd
 go_upto_if 10 with fail
 go_cut [] from 9 (fun wx => ∃ v, Hd (TO c x w.heap.size v (A0) wx))
 case first =>
  cases dd with
  | true =>
   have HA1 : Hd ([] ++ [65, 83, 75, 32] = A0) := (show _ = A0 by rw [HA0.o, if_pos HDD.o]; rfl)
   clear y0
   go_wp2_with fail
   refine (put1 c _ _ [] _ HT0.o.wq (by decide) (by rw [show (ByteArray.mk #[65, 83, 75]).size = 3 from rfl]; simp)).mono ?_
   rintro e z1 ⟨v1, rfl, hQ1, hK1⟩
   have HTE : Hd (TO c x w.heap.size v1 (A0) z1) := (show TO _ _ _ _ _ _ by rw [← HA1.o]; exact HT0.o.step hQ1 hK1)
   clear hQ1 hK1 HT0
   go_wp2_with fail
   go_meet
   case rel => exact ⟨_, HTE⟩
  | false =>
   have HA1 : Hd ([] ++ headTx x = A0) := (show _ = A0 by rw [HA0.o, if_neg (by rw [HDD.o]; simp)]; rfl)
   have ld := HT0.o.bx.range 0 x.cl rfl
   clear y0
   go_wp2_with (with_reducible refine wpq_at ?_; refine ldr rfl rfl rfl Tryz.underlying34 ld rfl ?_; try simp only [Act.put, sA, zA, cA])
   clear ld
   refine (HSE.o _ _ HT0.o.wq).mono ?_
   rintro e z1 ⟨v1, rfl, hQ1, hK1⟩
   have HTE : Hd (TO c x w.heap.size v1 (A0) z1) := (show TO _ _ _ _ _ _ by rw [← HA1.o]; exact HT0.o.step hQ1 hK1)
   clear hQ1 hK1 HT0
   go_wp2_with fail
   go_meet
   case rel => exact ⟨_, HTE⟩
 obtain ⟨v1, HT1⟩ := hcut
 clear HT0 y0 HDD HSE HA0
 have y3 := HT1.o.bx.2 3 _ rfl
 go_wp2_with fail
 clear y3
 refine (HSW.o v1 A0 _ HT1.o.wq (by have h1 := HLH.o; have h2 := HSUM.o; omega)).mono ?_
 rintro e z2 ⟨v2, rfl, hQ2, hK2⟩
 have HT2 := iH (HT1.o.step hQ2 hK2)
 have HLA : Hd ((A0 ++ gTx x.bn x.body).length ≤ 85000) := (show _ ≤ _ by have h1 := HLH.o; have h2 := HLG.o; rw [List.length_append]; omega)
 clear hQ2 hK2 HT1 HLH HLG HSW HSUM
 generalize A0 ++ gTx x.bn x.body = A at *
 have g1 := HT2.o.wq.gr 2 _ (by omega) HG3.o
 go_wp2_with fail
 clear g1
 go_loopw [27] (fun i wr => ∃ (k : Nat) (v' : Value), k ≤ 4 ∧ i = .int .i64 k ∧ Hd (TO c x w.heap.size v' (A ++ catN k (rTx x)) wr)) (fun i _ => 4 - (intOf i).toNat)
 case atStart => exact ⟨0, v2, nZ, rfl, (show Hd (TO c x w.heap.size v2 (A ++ []) _) by rw [List.append_nil]; exact HT2)⟩
 clear HT2
 obtain ⟨k, v', hk, rfl, HTr⟩ := hrel
 have lk := HLK.o k hk
 by_cases hlk : k < 4
 rotate_left
 · obtain rfl : k = 4 := by omega
   have hlkz : ¬ (4 : Int) < (4 : Int) := by omega
   have g3 := HTr.o.wq.cell
   go_wp2
   go_ret
   exact ⟨_, rfl, HTX.o ▸ (HTr.o.wq.own.lower HBB.o), EW.o ▸ HTr.o.wq.bl⟩
 have hlkz : (k : Int) < 4 := by omega
 obtain ⟨st, hst⟩ : ∃ st, st = tWord k := ⟨_, rfl⟩
 obtain ⟨is, his⟩ : ∃ is, is = tIs k := ⟨_, rfl⟩
 obtain ⟨rd, hrd⟩ : ∃ rd, rd = tRd k := ⟨_, rfl⟩
 obtain ⟨wf, hwf⟩ : ∃ wf, wf = tFn k := ⟨_, rfl⟩
 have hcx : wr.rangeAt r3 (k * 4) [.string st, .func (.func is) #[] #[], .func (.func rd) #[] #[], .func (.func wf) #[] #[]] := fun i u hu => (HTr.o.wq.rt ⟨r3, k * 4 + i, none⟩ u (HTT.o k hlk i u (by rw [← hu, hst, his, hrd, hwf]; rfl))).2.2
 have HWF : Hd (wf = tFn k ∧ st = tWord k ∧ is = tIs k) := ⟨hwf, hst, his⟩
 have HST : Hd (0 < st.size ∧ st.size ≤ 6) := (show _ ∧ _ by rw [hst]; exact tWord_len k)
 clear hst his hrd hwf
 have hth := (OB.new wr #[.string ⟨#[]⟩, .nilFunc, .nilFunc, .nilFunc] 144).there 0 4 (by simp)
 have one1 := tail_one st is rd wf
 have HBk : Hd (Bl wr ((wr.alloc (.cells #[.string ⟨#[]⟩, .nilFunc, .nilFunc, .nilFunc] 144)).setCells wr.heap.size 0 [.string st, .func (.func is) #[] #[], .func (.func rd) #[] #[], .func (.func wf) #[] #[]])) := below_sets _ nR _ _ _ (bl_a _)
 have HS5 := iH (HTr.o.below HBk.o)
 have HI5 : Hd (WS c wr v' v' (A ++ catN k (rTx x)) [.string st, .func (.func is) #[] #[], .func (.func rd) #[] #[], .func (.func wf) #[] #[]] ((wr.alloc (.cells #[.string ⟨#[]⟩, .nilFunc, .nilFunc, .nilFunc] 144)).setCells wr.heap.size 0 [.string st, .func (.func is) #[] #[], .func (.func rd) #[] #[], .func (.func wf) #[] #[]])) := ⟨HTr.o.wq.below HBk.o, KQ.of_below HBk.o, ((OB.new wr #[.string ⟨#[]⟩, .nilFunc, .nilFunc, .nilFunc] 144).put [.string st, .func (.func is) #[] #[], .func (.func rd) #[] #[], .func (.func wf) #[] #[]] 0 [.string st, .func (.func is) #[] #[], .func (.func rd) #[] #[], .func (.func wf) #[] #[]] (show 0 + 4 ≤ 4 by omega) rfl).box, fun e => by have := (HTr.o.wq.own.2 _ e).2; omega, HTr.o.wq.lt⟩
 go_wp2_with (first | (with_reducible refine wpq_at ?_; refine ldr rfl rfl rfl Tryz.underlying144 hcx rfl ?_; try simp only [Act.put, sA, zA, cA]) | (with_reducible refine wpq_at ?_; refine store_stop 144 (.tmp 5) (.tmp 30) rfl ?_))
 change wpList _ _ _ _ _ _
 refine wpList_store_mid rfl 144 _ _ rfl wr.heap.size 0 #[.string st, .func (.func is) #[] #[], .func (.func rd) #[] #[], .func (.func wf) #[] #[]] rfl rfl hth (by kernel_rfl) one1 ?_
 try simp only [Act.put]
 generalize ((wr.alloc (.cells #[.string ⟨#[]⟩, .nilFunc, .nilFunc, .nilFunc] 144)).setCells wr.heap.size 0 [.string st, .func (.func is) #[] #[], .func (.func rd) #[] #[], .func (.func wf) #[] #[]]) = W5 at *
 clear hcx hth one1 HBk HTr
 have y1 := HI5.o.bx.2 1 _ rfl
 have ld := HS5.o.bx.range 0 x.cl rfl
 have cf : (callFunc is #[.agg x.ar]).run Tryz.prog W5 = .ok (.enter is #[.agg x.ar]) W5 := by rw [HWF.o.2.2]; exact tIs_call k _ _
 go_wp2_with (with_reducible refine wpq_at ?_; refine ldr rfl rfl rfl Tryz.underlying34 ld rfl ?_; try simp only [Act.put, sA, zA, cA])
 clear ld cf y1
 have HIS : Hd (Cl is #[.agg x.ar] W5 (Tells (InR x k) W5)) := (show Calls _ _ _ _ _ by rw [HWF.o.2.2]; exact isIn_any x hlk W5)
 refine HIS.o.mono ?_
 rintro e z5 ⟨q, rfl, hq, hb5⟩
 have HS6 := iH (HS5.o.below hb5)
 have HI6 := iH (HI5.o.below hb5)
 clear hb5 HS5 HI5 HIS
 cases q
 · have HSE : Hd (TO c x w.heap.size v' (A ++ catN (k + 1) (rTx x)) z5) := (show TO _ _ _ _ _ _ by
    have h1 := rTx_no hlk (fun h => by have := hq.2 h; cases this)
    show TO c x w.heap.size v' (A ++ (catN k (rTx x) ++ rTx x k)) z5
    rw [h1, List.append_nil]
    exact HS6.o)
   clear hq HS6 HI6
   go_wp2
   go_roundw
   case rel => exact ⟨k + 1, v', by omega, by go_num, HSE⟩
   case measure => simp [intOf]; omega
 obtain ⟨R1, hR1, hW1⟩ := HTL.o k hlk (hq.1 rfl)
 rw [← HWF.o.1] at hW1
 rw [← HWF.o.2.1] at hR1
 have HW1 := iH hW1
 have HR1 : Hd (A ++ catN k (rTx x) ++ (numsOf st ++ [32]) ++ R1 = A ++ catN (k + 1) (rTx x)) := (show _ = A ++ (catN k (rTx x) ++ rTx x k) by rw [← hR1]; simp)
 clear hR1 hW1 hq
 have ys := HI6.o.bx.2 0 _ rfl
 go_wp2_with fail
 clear ys
 refine (put1 c st v' _ _ HI6.o.wq HST.o.1 (by have := HST.o.2; have := HLA.o; rw [List.length_append]; omega)).mono ?_
 rintro e z6 ⟨v6, rfl, hQ6, hK6⟩
 have HS7 := iH (HS6.o.step hQ6 hK6)
 have HI7 := iH (HI6.o.step hQ6 hK6)
 clear hQ6 hK6 HS6 HI6
 have y3 := HI7.o.bx.2 3 _ rfl
 have ld := HS7.o.bx.range 0 x.cl rfl
 have cf : (callFunc wf #[.pointer (some ⟨c.g, 0, none⟩), .agg x.ar]).run Tryz.prog z6 = .ok (.enter wf #[.pointer (some ⟨c.g, 0, none⟩), .agg x.ar]) z6 := by rw [HWF.o.1]; exact tFn_call k _ _
 go_wp2_with (with_reducible refine wpq_at ?_; refine ldr rfl rfl rfl Tryz.underlying34 ld rfl ?_; try simp only [Act.put, sA, zA, cA])
 clear ld y3 cf
 refine (HW1.o v6 _ _ HS7.o.wq (by have := HST.o.2; have := HLA.o; simp only [List.length_append, List.length_cons, List.length_nil, numsOf_len]; omega)).mono ?_
 rintro e z7 ⟨v7, rfl, hQ7, hK7⟩
 have HSE : Hd (TO c x w.heap.size v7 (A ++ catN (k + 1) (rTx x)) z7) := (show TO _ _ _ _ _ _ by rw [← HR1.o]; exact HS7.o.step hQ7 hK7)
 clear hQ7 hK7 HS7 HI7
 go_wp2
 go_roundw
 case rel => exact ⟨k + 1, v7, by omega, by go_num, HSE⟩
 case measure => simp [intOf]; omega
end Go.Proofs.YthljoojcpbignaaGreatDoor
