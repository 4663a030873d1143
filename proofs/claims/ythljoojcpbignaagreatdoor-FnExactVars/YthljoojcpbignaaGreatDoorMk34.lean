import Derived.Test.YthljoojcpbignaaGreatDoorMk33
import Derived.Lib.SlBytesConst
namespace Go.Proofs.YthljoojcpbignaaGreatDoor
open Go.RowKit Go.Deep
set_option maxHeartbeats 40000000
set_option maxRecDepth 100000
theorem Own8.lower {w : World} {B B' n : Nat} {v : Value} {bs : List Int} (h : Own8 w B' v n bs) (hB : B ≤ B') : Own8 w B v n bs := by
 obtain ⟨⟨h1, h2⟩, h3⟩ := h
 refine ⟨⟨h1, ?_⟩, fun g hg => ⟨Nat.le_trans hB (h3 g hg).1, (h3 g hg).2⟩⟩
 rcases h2 with h2 | ⟨g, cap, cur, hv, hb, r⟩
 · exact .inl h2
 exact .inr ⟨g, cap, cur, hv, Nat.le_trans hB hb, r⟩
def FullR (w : World) (B : Nat) (v : Value) (bs : List Int) : Prop := ∃ g, v = .slice (some ⟨g, 0, none⟩) bs.length bs.length ∧ B ≤ g ∧ g < w.heap.size ∧ ∀ j u, (bs.map (Value.int .u8))[j]? = some u → w.cell? ((⟨g, 0, none⟩ : Addr).add j) = some u
def OwnX (w : World) (B : Nat) (v : Value) (bs : List Int) : Prop := Own8 w B v bs.length bs ∨ FullR w B v bs
theorem OwnX.low {w : World} {B : Nat} {v : Value} {bs : List Int} (h : OwnX w B v bs) : ∀ g, v.ownBlock = some g → B ≤ g ∧ g < w.heap.size := by
 intro g hg
 rcases h with h | ⟨g', rfl, h1, h2, _⟩
 · exact h.2 g hg
 have : g' = g := by simpa [Value.ownBlock] using hg
 subst this
 exact ⟨h1, h2⟩
theorem OwnX.below {w w' : World} {B : Nat} {v : Value} {bs : List Int} (h : OwnX w B v bs) (hb : Bl w w') : OwnX w' B v bs := by
 rcases h with h | ⟨g, hv, h1, h2, h3⟩
 · exact .inl (h.below hb)
 refine .inr ⟨g, hv, h1, Nat.lt_of_lt_of_le h2 hb.size, fun j u hu => ?_⟩
 have e : (⟨g, 0, none⟩ : Addr).add j = ⟨g, j, none⟩ := by by_cases h0 : j = 0 <;> simp [Addr.add, h0]
 have := h3 j u hu
 rw [e] at this ⊢
 exact (hb.cell (p := ⟨g, j, none⟩) h2).trans this
theorem kp_new {w w' : World} {v : Value} {g n cap : Nat} (hgr : w.grownBy w' none) (hg : w.heap.size ≤ g) : Kp v w (.slice (some ⟨g, 0, none⟩) n cap) w' :=
 ⟨hgr.os, hgr.tape, hgr.output, hgr.size, fun b hb _ => hgr.block b hb (by simp), fun g' hg' => .inr (by
  have : g = g' := by simpa [Value.ownBlock] using hg'
  omega)⟩
theorem app8m {ops : Array Oper} {rest : List Oper} {o : Oper} {a : Act} {Q : Exit → Act → World → Prop} {w : World} (hgd : o.guard = none) (s x : Operand)
 (ho : o.op = .call { callee := .builtin .append, args := #[s, x], argTypes := #[42, 42] })
 (B g n : Nat) (us : List Int) (hs : a.eval s = .slice (some ⟨g, 0, none⟩) n n) (hul : us.length = n) (HC : Hd (∀ j u, (us.map (Value.int .u8))[j]? = some u → w.cell? ((⟨g, 0, none⟩ : Addr).add j) = some u))
 (ad : Addr) (m c : Nat) (bs : List Int) (hx : a.eval x = .slice (some ad) m c) (hl : bs.length = m) (HN : Hd (∀ j u, (bs.map (Value.int .u8))[j]? = some u → w.cell? (ad.add j) = some u))
 (hm : 0 < m) (N : Nat) (hN : n + m = N) (zs : List Int) (hz : us ++ bs = zs) (hle : N ≤ 1000000000) (hB : B ≤ w.heap.size)
 (h : ∀ g' cap w', Hd (Own8 w' B (.slice (some ⟨g', 0, none⟩) N cap) N zs) → Hd (Kp (.slice (some ⟨g, 0, none⟩) n n) w (.slice (some ⟨g', 0, none⟩) N cap) w') → wpList Tryz.prog ops Q rest (a.put o.dst (.slice (some ⟨g', 0, none⟩) N cap)) w') :
 wpList Tryz.prog ops Q (o :: rest) a w := by
 obtain ⟨i0, hi0, hzz⟩ := Option.map_eq_some_iff.1 Tryz.info5
 simp only [Prod.mk.injEq] at hzz
 obtain ⟨hi2, hi1, hi3⟩ := hzz
 subst hN hz
 refine wpList_append_grows _ hgd s x 42 ho 5 i0 (.int .u8 0) 1 1 Tryz.underlying42 hi0 hi2 hi1 hi3 rfl (by omega) (some ⟨g, 0, none⟩) n n (us.map (Value.int .u8)) hs (by simp) (by simp [hul]) (fun b hb => by cases hb; exact HC.o) ad m c (bs.map (Value.int .u8)) hx (by simp [hl]) HN.o (oneCell_map bs) (by omega) (by unfold maxLen; omega) (by omega) ?_
 intro v' w' hown hgr
 obtain ⟨g', cap, rfl, hBg, hlt⟩ := hown.form (by omega)
 rw [← List.map_append] at hown
 exact h g' cap w' ((Row8.grown (by rw [List.map_append] at hown; exact hown) rfl hlt).own8.lower hB) (kp_new hgr hBg)
theorem app8sm {ops : Array Oper} {rest : List Oper} {o : Oper} {a : Act} {Q : Exit → Act → World → Prop} {w : World} (hgd : o.guard = none) (s x : Operand)
 (ho : o.op = .call { callee := .builtin .append, args := #[s, x], argTypes := #[42, 9] })
 (B g n : Nat) (us : List Int) (hs : a.eval s = .slice (some ⟨g, 0, none⟩) n n) (hul : us.length = n) (HC : Hd (∀ j u, (us.map (Value.int .u8))[j]? = some u → w.cell? ((⟨g, 0, none⟩ : Addr).add j) = some u))
 (st : ByteArray) (hx : a.eval x = .string st) (hm : 0 < st.size) (N : Nat) (hN : n + st.size = N) (zs : List Int) (hz : us ++ numsOf st = zs) (hle : N ≤ 1000000000) (hB : B ≤ w.heap.size)
 (h : ∀ g' cap w', Hd (Own8 w' B (.slice (some ⟨g', 0, none⟩) N cap) N zs) → Hd (Kp (.slice (some ⟨g, 0, none⟩) n n) w (.slice (some ⟨g', 0, none⟩) N cap) w') → wpList Tryz.prog ops Q rest (a.put o.dst (.slice (some ⟨g', 0, none⟩) N cap)) w') :
 wpList Tryz.prog ops Q (o :: rest) a w := by
 obtain ⟨i0, hi0, hzz⟩ := Option.map_eq_some_iff.1 Tryz.info5
 simp only [Prod.mk.injEq] at hzz
 obtain ⟨hi2, hi1, hi3⟩ := hzz
 subst hN hz
 have hr := Lib.run_append_grow_string (P := Tryz.prog) w 42 9 o.type 5 i0 (.int .u8 0) Tryz.underlying42 Tryz.underlying9 hi0 hi2 ⟨g, 0, none⟩ n n (us.map (Value.int .u8)) (by rw [hi1]; simp [hul]) HC.o st (by omega) (by omega) (by rw [hi3]; exact growslice_fits (by omega) (by omega))
 have es : Lib.strCells st = (numsOf st).map (Value.int .u8) := by simp [Lib.strCells, numsOf]
 rw [es] at hr
 have hsl : (numsOf st).length = st.size := by simp [numsOf]
 have hge := grownCap_ge w (n + st.size) n 5
 have hcm := grownCap_le_maxLen w (n + st.size) n 5 (by unfold maxLen; omega)
 refine wpList_plain hgd fun K hK => ?_
 unfold Oper.wp execOp
 simp only [ho, resolve, invoke, builtin, Sem.run_bind, Sem.run_pure, Result.andThen_ok, List.map_toArray, List.map_cons, List.map_nil, hs, hx, hr]
 refine hK _ _ (h w.heap.size _ _ ⟨⟨by simp [hul, hsl], .inr ⟨w.heap.size, _, _, rfl, hB, Go.heap_alloc_new w.drew _, hge, hcm, ?_, ?_⟩⟩, fun g' hg' => ?_⟩ ⟨rfl, rfl, rfl, by simp, fun b hb _ => (bl_a (w := w.drew) _).block b hb, fun g' hg' => .inr ?_⟩)
 · have hz1 : (Value.int IntKind.u8 0).cells.size = 1 := rfl
   simp only [Array.size_append, List.size_toArray, size_zeroCells, hz1, List.length_map, hul, hsl]
   omega
 · simp only [Array.toList_append, List.append_assoc, List.map_append]
   rw [← List.append_assoc, Nat.mul_one]
   have e : n + st.size = (us.map (Value.int .u8) ++ (numsOf st).map (Value.int .u8)).length := by simp [hul, hsl]
   rw [e]
   exact List.take_left
 · have : w.heap.size = g' := by simpa [Value.ownBlock] using hg'
   subst this
   exact ⟨hB, by simp⟩
 have : w.heap.size = g' := by simpa [Value.ownBlock] using hg'
 omega
theorem l4wordX (v : Value) (B : Nat) (bs : List Int) (st : ByteArray) (w : World) (HO : OwnX w B v bs) (hB : B ≤ w.heap.size) (hl : 0 < st.size) (hn : bs.length + st.size + 1 ≤ 1000000) :
 Calls Tryz.prog 67 #[v, .string st] w (SayK B v (bs ++ (numsOf st ++ [32])) w) := by
 rcases HO with HO | ⟨g, rfl, hg1, hg2, hC⟩
 · exact l4wordK v B bs st w HO hB hl hn
 obtain ⟨n, hnn⟩ : ∃ n, n = bs.length := ⟨_, rfl⟩
 rw [← hnn] at hn ⊢
 have HC := iH hC
 have HNN := iH hnn.symm
 clear hC hnn
 go_in
 go_wp2_with (first
  | (refine app8sm rfl (.tmp 5) (.tmp 6) rfl B g n bs rfl HNN.o HC st rfl hl (n + st.size) rfl (bs ++ numsOf st) rfl (by omega) hB ?_; intro g4 c4 w4 HR4 HK4; have HO4 := hidU (HR4.o.below (bl_a (.cells #[.int .u8 32] 5))); have HN4 := hidU (one_news w4 32); have hB4 : B ≤ (w4.alloc (.cells #[.int .u8 32] 5)).heap.size := Nat.le_trans hB (Nat.le_trans HK4.o.size (by simp)); clear HC)
  | (refine app8k rfl (.tmp 7) (.tmp 8) rfl B (.slice (some ⟨g4, 0, none⟩) (n + st.size) c4) (n + st.size) (bs ++ numsOf st) rfl HO4 ⟨w4.heap.size, 0, none⟩ 1 1 [32] rfl rfl HN4 (by omega) (n + st.size + 1) rfl (bs ++ numsOf st ++ [32]) rfl (by omega) hB4 ?_; intro g5 c5 w5 HR5 HK5; clear HO4 HN4 hB4))
 go_ret
 refine ⟨_, rfl, HR5.o.to (by simp) ?_, HK4.o.trans (Kp.pre (bl_a _) HK5.o)⟩
 have h := HR5.o.len
 simp at h ⊢
 omega
theorem l4sayVarX (v : Value) (B : Nat) (bs : List Int) (x : SL) (w0 w : World) (HO : OwnX w B v bs) (hx : BsF 0 w0 x) (hw : Bl w0 w) (h0 : w0.heap.size ≤ B) (hB : B ≤ w.heap.size) (hl : x.b ≠ []) (hn : bs.length + x.len + 2 ≤ 1000000) :
 Calls Tryz.prog 68 #[v, .slice x.a x.len x.cap] w (SayK B v (bs ++ 63 :: (x.b ++ [32])) w) := by
 rcases HO with HO | ⟨g, rfl, hg1, hg2, hC⟩
 · exact l4sayVarK v B bs x w0 w HO hx hw h0 hB hl hn
 obtain ⟨hlen, hsm, _, hm⟩ := hx.1
 have hl0 : 0 < x.len := by
  rcases Nat.eq_zero_or_pos x.len with h | h
  · exact absurd (List.eq_nil_of_length_eq_zero (by rw [hlen]; exact h)) hl
  exact h
 obtain ⟨b, off, ha, hlt, _⟩ := hm.resolve_left (by omega)
 obtain ⟨n, hnn⟩ : ∃ n, n = bs.length := ⟨_, rfl⟩
 rw [← hnn] at hn ⊢
 have HX := iH (fun W (hb : Bl w0 W) => bs_news (by rw [← ha]; exact hx.1.below hb))
 have HL := iH hlen
 have HV0 : Hd (∀ g', (Value.slice (some ⟨g, 0, none⟩) n n).ownBlock = some g' → B ≤ g') := fun g' hg' => (by have : g = g' := (by simpa [Value.ownBlock] using hg'); omega)
 have HC : Hd (∀ j u, (bs.map (Value.int .u8))[j]? = some u → (w.alloc (.cells #[.int .u8 63] 5)).cell? ((⟨g, 0, none⟩ : Addr).add j) = some u) := fun j u hu => (by
  have e : (⟨g, 0, none⟩ : Addr).add j = ⟨g, j, none⟩ := by by_cases h0 : j = 0 <;> simp [Addr.add, h0]
  have := hC j u hu
  rw [e] at this ⊢
  exact ((bl_a (w := w) _).cell (p := ⟨g, j, none⟩) hg2).trans this)
 have HN1 : Hd (∀ j u, (([63] : List Int).map (Value.int .u8))[j]? = some u → (w.alloc (.cells #[.int .u8 63] 5)).cell? ((⟨w.heap.size, 0, none⟩ : Addr).add j) = some u) := one_news w 63
 have HW := iH hw
 have hB1 : B ≤ (w.alloc (.cells #[.int .u8 63] 5)).heap.size := by simp; omega
 have HNN := iH hnn.symm
 rw [ha]
 clear hx hw hlen hsm hm ha hnn hl hC
 go_in
 go_wp2_with (first
  | (refine app8m rfl (.tmp 5) (.tmp 6) rfl B g n bs rfl HNN.o HC ⟨w.heap.size, 0, none⟩ 1 1 [63] rfl rfl HN1 (by omega) (n + 1) rfl (bs ++ [63]) rfl (by omega) hB1 ?_; intro g3 c3 w3 HR3 HK3x; have HK3 : Hd (Kp (.slice (some ⟨g, 0, none⟩) n n) w (.slice (some ⟨g3, 0, none⟩) (n + 1) c3) w3) := Kp.pre (bl_a _) HK3x.o; have HN3 := hidU (HX.o w3 (HW.o.trans ((HK3.o.low HV0.o hB).mono h0))); have hB3 : B ≤ w3.heap.size := Nat.le_trans hB HK3.o.size; clear HK3x HC HN1 hB1)
  | (refine app8k rfl (.tmp 7) (.tmp 8) rfl B (.slice (some ⟨g3, 0, none⟩) (n + 1) c3) (n + 1) (bs ++ [63]) rfl HR3 ⟨b, off, none⟩ x.len x.cap x.b rfl HL.o HN3 (by omega) (n + 1 + x.len) rfl (bs ++ [63] ++ x.b) rfl (by omega) hB3 ?_; intro g4 c4 w4 HR4 HK4x; have HK4 : Hd (Kp (.slice (some ⟨g, 0, none⟩) n n) w (.slice (some ⟨g4, 0, none⟩) (n + 1 + x.len) c4) w4) := HK3.o.trans HK4x.o; have HO4 := hidU (HR4.o.below (bl_a (.cells #[.int .u8 32] 5))); have HN4 := hidU (one_news w4 32); have hB4 : B ≤ (w4.alloc (.cells #[.int .u8 32] 5)).heap.size := Nat.le_trans hB (Nat.le_trans HK4.o.size (by simp)); clear HK4x HN3 hB3)
  | (refine app8k rfl (.tmp 9) (.tmp 10) rfl B (.slice (some ⟨g4, 0, none⟩) (n + 1 + x.len) c4) (n + 1 + x.len) (bs ++ [63] ++ x.b) rfl HO4 ⟨w4.heap.size, 0, none⟩ 1 1 [32] rfl rfl HN4 (by omega) (n + 1 + x.len + 1) rfl (bs ++ [63] ++ x.b ++ [32]) rfl (by omega) hB4 ?_; intro g5 c5 w5 HR5 HK5x; have HK5 : Hd (Kp (.slice (some ⟨g, 0, none⟩) n n) w (.slice (some ⟨g5, 0, none⟩) (n + 1 + x.len + 1) c5) w5) := HK4.o.trans (Kp.pre (bl_a _) HK5x.o); clear HK5x HO4 HN4 hB4))
 go_ret
 refine ⟨_, rfl, HR5.o.to (by simp) ?_, HK5.o⟩
 have h := HR5.o.len
 simp at h ⊢
 omega
def selTx (s : SE) : List Int := if s.fn = 0 then vTx s.v.b else [40, 32] ++ ((if s.fn = 1 then [67, 79, 85, 78, 84, 32] else [83, 85, 77, 32]) ++ (vTx s.of.b ++ ([65, 83, 32] ++ (vTx s.v.b ++ [41, 32]))))
def keyTx (k : KY) : List Int := (if k.down = true then [45, 32] else []) ++ vTx k.v.b
def numTx (n : Int) : List Int := digitsL n.toNat ++ [32]
def disTx (x : QY) : List Int := if x.dis = true then [68, 73, 83, 84, 73, 78, 67, 84, 32] else []
def starTx (x : QY) : List Int := if x.sn = 0 then [42, 32] else []
def grpTx (x : QY) : List Int := if 0 < x.gn then [71, 82, 79, 85, 80, 32] else []
def ordTx (x : QY) : List Int := if 0 < x.on then [79, 82, 68, 69, 82, 32] else []
def limTx (x : QY) : List Int := if 0 ≤ x.lim then [76, 73, 77, 73, 84, 32] ++ numTx x.lim else []
def offTx (x : QY) : List Int := if 0 < x.off then [79, 70, 70, 83, 69, 84, 32] ++ numTx x.off else []
def headTx (x : QY) : List Int := [83, 69, 76, 69, 67, 84, 32] ++ disTx x ++ starTx x ++ catN x.sn (fun i => selTx (x.sel i)) ++ [87, 72, 69, 82, 69, 32]
def tailTx (x : QY) : List Int := grpTx x ++ catN x.gn (fun i => vTx (x.grp i).b) ++ ordTx x ++ catN x.on (fun i => keyTx (x.key i)) ++ limTx x ++ offTx x
def qTx (x : QY) : List Int := if x.ask = true then [65, 83, 75, 32] ++ gTx x.bn x.body else headTx x ++ gTx x.bn x.body ++ tailTx x
structure SayQ (x : QY) : Prop where
 b : bodyOk x
 s : x.sn ≤ 8 ∧ ∀ i, i < x.sn → nameOk (x.sel i).v.b = true ∧ ((x.sel i).fn ≠ 0 → nameOk (x.sel i).of.b = true)
 g : x.gn ≤ 4 ∧ ∀ i, i < x.gn → nameOk (x.grp i).b = true
 o : x.on ≤ 4 ∧ ∀ i, i < x.on → nameOk (x.key i).v.b = true
 lim : -1 ≤ x.lim ∧ x.lim ≤ 999
 off : 0 ≤ x.off ∧ x.off ≤ 999
theorem sel_len {s : SE} (h1 : nameOk s.v.b = true) (h2 : s.fn ≠ 0 → nameOk s.of.b = true) : (selTx s).length ≤ 41 := by
 have a := vTx_len h1
 unfold selTx
 split
 · omega
 rename_i h
 have b := vTx_len (h2 h)
 simp only [lA, lC, lN]
 split <;> simp only [List.length_cons, List.length_nil] <;> omega
theorem key_len {k : KY} (h1 : nameOk k.v.b = true) : (keyTx k).length ≤ 16 := by
 have a := vTx_len h1
 unfold keyTx
 split <;> simp only [lA, lC, lN] <;> omega
theorem catN_most {n m : Nat} {f : Nat → List Int} (h : ∀ i, i < n → (f i).length ≤ m) : (catN n f).length ≤ m * n := by
 have h1 := catN_len (n := n) (f := f) (c := fun _ => 1) (m := m) (fun i hi => by have := h i hi; omega)
 have h2 : sumN n (fun _ => 1) = n := by
  clear h1 h
  induction n with
  | zero => rfl
  | succ n ih => show sumN n (fun _ => 1) + 1 = n + 1; rw [ih]
 rw [h2] at h1
 exact h1
theorem sels_len {x : QY} (h : SayQ x) {k : Nat} (hk : k ≤ x.sn) : (catN k (fun i => selTx (x.sel i))).length ≤ 328 := by
 have h1 := catN_most (n := k) (f := fun i => selTx (x.sel i)) (m := 41) (fun i hi => sel_len (h.s.2 i (by omega)).1 (h.s.2 i (by omega)).2)
 have := h.s.1
 omega
theorem grps_len {x : QY} (h : SayQ x) {k : Nat} (hk : k ≤ x.gn) : (catN k (fun i => vTx (x.grp i).b)).length ≤ 56 := by
 have h1 := catN_most (n := k) (f := fun i => vTx (x.grp i).b) (m := 14) (fun i hi => vTx_len (h.g.2 i (by omega)))
 have := h.g.1
 omega
theorem keys_len {x : QY} (h : SayQ x) {k : Nat} (hk : k ≤ x.on) : (catN k (fun i => keyTx (x.key i))).length ≤ 64 := by
 have h1 := catN_most (n := k) (f := fun i => keyTx (x.key i)) (m := 16) (fun i hi => key_len (h.o.2 i (by omega)))
 have := h.o.1
 omega
theorem gTx_len {x : QY} (h : SayQ x) : (gTx x.bn x.body).length ≤ 84004 := by
 have h1 := catN_len (n := x.bn) (f := fun i => uTx (x.body i)) (c := fun i => usz (x.body i)) (m := 700) (fun i hi => uTx_len (h.b.1 i hi))
 have h2 := h.b.2
 unfold gTx
 simp only [lA, lC, lN]
 omega
theorem dis_len (x : QY) : (disTx x).length ≤ 9 := by unfold disTx; split <;> simp
theorem star_len (x : QY) : (starTx x).length ≤ 2 := by unfold starTx; split <;> simp
theorem grp_len (x : QY) : (grpTx x).length ≤ 6 := by unfold grpTx; split <;> simp
theorem ord_len (x : QY) : (ordTx x).length ≤ 6 := by unfold ordTx; split <;> simp
structure TX (w : World) (v : Value) (bs : List Int) (cs : List Value) (W : World) : Prop where
 own : OwnX W (w.heap.size + 1) v bs
 bx : Box W w.heap.size cs
 bl : Bl w W
 lo : w.heap.size + 1 ≤ W.heap.size
structure TY (w : World) (v : Value) (bs : List Int) (cs : List Value) (W : World) : Prop where
 own : Own8 W (w.heap.size + 1) v bs.length bs
 tx : TX w v bs cs W
theorem TX.below {w : World} {v : Value} {bs : List Int} {cs : List Value} {W W' : World} (h : TX w v bs cs W) (hb : Bl W W') : TX w v bs cs W' :=
 ⟨h.own.below hb, h.bx.below hb, h.bl.trans (hb.mono h.bl.size), Nat.le_trans h.lo hb.size⟩
theorem TY.below {w : World} {v : Value} {bs : List Int} {cs : List Value} {W W' : World} (h : TY w v bs cs W) (hb : Bl W W') : TY w v bs cs W' := ⟨h.own.below hb, h.tx.below hb⟩
theorem TX.say {w : World} {v v' : Value} {bs bs' : List Int} {cs : List Value} {W W' : World} (h : TX w v bs cs W) (hO : Own8 W' (w.heap.size + 1) v' bs'.length bs') (hK : Kp v W v' W') : TY w v' bs' cs W' :=
 ⟨hO, .inl hO, hK.box h.bx (fun e => by have := (h.own.low _ e).1; omega), h.bl.trans ((hK.low (fun g hg => (h.own.low g hg).1) h.lo).mono (Nat.le_succ _)), Nat.le_trans h.lo hK.size⟩
theorem TX.to {w : World} {v : Value} {bs bs' : List Int} {cs : List Value} {W : World} (h : TX w v bs cs W) (e : bs = bs') : TX w v bs' cs W := e ▸ h
theorem TY.to {w : World} {v : Value} {bs bs' : List Int} {cs : List Value} {W : World} (h : TY w v bs cs W) (e : bs = bs') : TY w v bs' cs W := e ▸ h
theorem fullR_new (W : World) (B : Nat) (bs : List Int) (C : Array Value) (hC : C.toList = bs.map (Value.int .u8)) (t : TypeId) (z : Nat × Nat) (hB : B ≤ W.heap.size) : FullR (W.alloc (.cells C t z)) B (.slice (some ⟨W.heap.size, 0, none⟩) bs.length bs.length) bs := by
 refine ⟨W.heap.size, rfl, hB, by simp, fun j u hu => ?_⟩
 have h1 : (W.alloc (.cells C t z)).heap[W.heap.size]? = some (.cells C t z) := by
  show (W.heap.push _)[W.heap.size]? = _
  rw [Array.getElem?_push]
  simp
 rw [← hC] at hu
 exact World.news_of_block h1 j u (by simpa using hu)
theorem conv_k (W : World) (H : Nat) (hH : H = W.heap.size) (C : Array Value) (n : Nat) : (convert 42 42 (.slice (some ⟨H, 0, none⟩) n n)).run Tryz.prog (W.alloc (.cells C 5)) = .ok (.slice (some ⟨H, 0, none⟩) n n) (W.alloc (.cells C 5 (C.size, C.size + 1))) := by
 subst hH
 exact Lib.run_convert_bytes_const W 42 5 C n n Tryz.underlying42 Tryz.underlying5
def MadeT (w : World) (bs : List Int) (e : Ending) (w' : World) : Prop := ∃ v, e = .returned v ∧ Own8 w' (w.heap.size + 1) v bs.length bs ∧ Bl w w'
theorem text_ask (x : QY) (w : World) (hx : x.lies 0 w) (hs : SayQ x) (ha : x.ask = true) :
 Calls Tryz.prog 41 #[.agg #[.bool x.ask, .bool x.dis, .slice x.sa x.sn x.sc, .slice x.ba x.bn x.bc, .slice x.ga x.gn x.gc, .slice x.oa x.on x.oc, .int .i64 x.lim, .int .i64 x.off]] w (MadeT w (qTx x)) := by
 have HSG := iH (fun (v : Value) (bs : List Int) (W : World) (hO : OwnX W _ v bs) (hb : Bl w W) (hB : (w.heap.size + 1) ≤ W.heap.size) (hl : bs.length ≤ 10000) => sayGroup_core x.ba x.bc x.bn x.body 1 (w.heap.size + 1) w hx.b.2.2 hx.b.1 hx.b.2.1 hs.b.1 (Nat.le_succ _) (fun i hi => sayGroup_any (x.body i) 1 _ w (hx.b.2.1 i hi) (hs.b.1 i hi) (Nat.le_succ _)) v bs W (fun g hg => (hO.low g hg).1) (l4wordX v _ bs ⟨#[123]⟩ W hO hB (by decide) (by rw [show (ByteArray.mk #[123]).size = 1 from rfl]; omega)) hb hB (by have := hs.b.2; omega))
 have HX1 := iH (Box.new w #[.bool x.ask, .bool x.dis, .slice x.sa x.sn x.sc, .slice x.ba x.bn x.bc, .slice x.ga x.gn x.gc, .slice x.oa x.on x.oc, .int .i64 x.lim, .int .i64 x.off] 34 (0, 0))
 have HB1 : Hd (Bl w (w.alloc (.cells #[.bool x.ask, .bool x.dis, .slice x.sa x.sn x.sc, .slice x.ba x.bn x.bc, .slice x.ga x.gn x.gc, .slice x.oa x.on x.oc, .int .i64 x.lim, .int .i64 x.off] 34))) := bl_a _
 have HZ1 : Hd ((w.alloc (.cells #[.bool x.ask, .bool x.dis, .slice x.sa x.sn x.sc, .slice x.ba x.bn x.bc, .slice x.ga x.gn x.gc, .slice x.oa x.on x.oc, .int .i64 x.lim, .int .i64 x.off] 34)).heap.size = w.heap.size + 1) := (show _ = _ by simp)
 have HTX := iH (show _ = qTx x by unfold qTx; rw [if_pos ha])
 rw [ha]
 rw [ha] at HX1 HB1 HZ1
 clear hx hs ha
 go_in
 go_upto_region 1 with fail
 generalize (w.alloc (.cells (qC2 true x) 34)) = W1 at *
 have x0 := HX1.o.2 0 _ rfl
 have cv : (convert 42 42 (.slice (some ⟨W1.heap.size, 0, none⟩) 4 4)).run Tryz.prog (W1.alloc (.cells #[.int .u8 65, .int .u8 83, .int .u8 75, .int .u8 32] 5)) = .ok (.slice (some ⟨W1.heap.size, 0, none⟩) 4 4) (W1.alloc (.cells #[.int .u8 65, .int .u8 83, .int .u8 75, .int .u8 32] 5 (4, 5))) := conv_k W1 W1.heap.size rfl _ 4
 have HT0 : Hd (TX w (.slice (some ⟨W1.heap.size, 0, none⟩) 4 4) ([65, 83, 75, 32]) (qB true x) (W1.alloc (.cells #[.int .u8 65, .int .u8 83, .int .u8 75, .int .u8 32] 5 (4, 5)))) := ⟨.inr (fullR_new W1 (w.heap.size + 1) [65, 83, 75, 32] #[.int .u8 65, .int .u8 83, .int .u8 75, .int .u8 32] rfl 5 (4, 5) (by have := HZ1.o; omega)), HX1.o.below (bl_a _), bl_trans HB1.o (bl_a _), (show _ ≤ _ by have := HZ1.o; simp; omega)⟩
 have y3 := HT0.o.bx.2 3 _ rfl
 go_wp2_with fail
 refine (HSG.o _ _ _ HT0.o.own HT0.o.bl HT0.o.lo (by simp)).mono ?_
 rintro e z1 ⟨v1, rfl, hO1, hK1⟩
 have HT1 := iH (HT0.o.say hO1 hK1)
 clear hO1 hK1 HT0 x0 y3 cv
 go_wp2
 go_ret
 exact ⟨_, rfl, HTX.o ▸ HT1.o.own, HT1.o.tx.bl⟩
end Go.Proofs.YthljoojcpbignaaGreatDoor
