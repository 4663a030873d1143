import Derived.Test.YthljoojcpbignaaGreatDoorMk26
namespace Go.Proofs.YthljoojcpbignaaGreatDoor
open Go.RowKit Go.Deep
set_option maxHeartbeats 40000000
set_option maxRecDepth 100000
def catN : Nat → (Nat → List Int) → List Int
 | 0, _ => []
 | n + 1, f => catN n f ++ f n
theorem catN_congr {n : Nat} {f g : Nat → List Int} (h : ∀ i, i < n → f i = g i) : catN n f = catN n g := by
 induction n with
 | zero => rfl
 | succ n ih =>
  show catN n f ++ f n = catN n g ++ g n
  rw [ih (fun i hi => h i (by omega)), h n (by omega)]
theorem catN_len {n : Nat} {f : Nat → List Int} {c : Nat → Nat} {m : Nat} (h : ∀ i, i < n → (f i).length ≤ m * c i) : (catN n f).length ≤ m * sumN n c := by
 induction n with
 | zero => exact nZ
 | succ n ih =>
  have h1 := ih (fun i hi => h i (by omega))
  have h2 := h n (by omega)
  show (catN n f ++ f n).length ≤ m * (sumN n c + c n)
  rw [List.length_append, Nat.mul_add]
  omega
def opB (n : Int) : Int := if n = 0 then 43 else if n = 1 then 45 else if n = 2 then 42 else if n = 3 then 47 else if n = 4 then 60 else if n = 5 then 61 else if n = 6 then 38 else 124
def eTx : ET → List Int
 | .nil => []
 | .mk d kid => if d.k = 0 then vTx d.v.b else if d.k = 1 then tTx d.t else if d.k = 2 then [40, 32] ++ (eTx (kid 0) ++ ([opB d.op, 32] ++ (eTx (kid 1) ++ [41, 32]))) else if d.k = 3 then [78, 79, 84, 32] ++ eTx (kid 0)
  else if d.k = 4 then [66, 79, 85, 78, 68, 32] ++ vTx d.v.b else if d.k = 5 then [73, 70, 32] ++ (eTx (kid 0) ++ (eTx (kid 1) ++ eTx (kid 2))) else if d.k = 7 then [76, 69, 78, 32] ++ eTx (kid 0) else [67, 79, 65, 76, 32, 123, 32] ++ (catN d.n (fun i => eTx (kid i)) ++ [125, 32])
theorem eTx_mk (d : EN) (kid : Nat → ET) : eTx (.mk d kid) = if d.k = 0 then vTx d.v.b else if d.k = 1 then tTx d.t else if d.k = 2 then [40, 32] ++ (eTx (kid 0) ++ ([opB d.op, 32] ++ (eTx (kid 1) ++ [41, 32]))) else if d.k = 3 then [78, 79, 84, 32] ++ eTx (kid 0)
 else if d.k = 4 then [66, 79, 85, 78, 68, 32] ++ vTx d.v.b else if d.k = 5 then [73, 70, 32] ++ (eTx (kid 0) ++ (eTx (kid 1) ++ eTx (kid 2))) else if d.k = 7 then [76, 69, 78, 32] ++ eTx (kid 0) else [67, 79, 65, 76, 32, 123, 32] ++ (catN d.n (fun i => eTx (kid i)) ++ [125, 32]) := rfl
theorem vTx_len {b : List Int} (h : nameOk b = true) : (vTx b).length ≤ 14 := by
 have := (name_len h).2
 simp [vTx]
 omega
theorem tTx_len {t : TB} (h : t.td.ok = true) : (tTx t).length ≤ 65 := by
 have := (Tm.show_len (t := t.t) (b := t.b) h).2
 simp [tTx]
 omega
theorem eTx_len {lim : Int} {e : ET} : ∀ {deep : Int}, eOk lim e deep → (eTx e).length ≤ 80 * esz e := by
 induction e with
 | nil => exact fun h => False.elim h
 | mk d kid ih =>
  intro deep h
  obtain ⟨_, ⟨hk, hv, _, ht, _⟩, hkid⟩ := h
  have hi := fun i (hi : i < d.n) => ih i (hkid i hi)
  show (eTx (.mk d kid)).length ≤ 80 * (1 + sumN d.n (fun i => esz (kid i)))
  unfold kOk at hk
  unfold eTx
  rcases hk with ⟨hk, hn⟩ | ⟨hk, hn⟩ | ⟨hk, hn⟩ | ⟨hk, hn⟩ | ⟨hk, hn1, hn2⟩
  · rcases hk with hk | hk | hk
    · have h1 := vTx_len (hv (.inl hk)); simp only [hk]; simp; omega
    · have h1 := tTx_len (ht hk); simp only [hk]; simp; omega
    have h1 := vTx_len (hv (.inr hk)); simp only [hk]; simp; omega
  · have h1 := hi 0 (by omega)
    have h2 : sumN 1 (fun i => esz (kid i)) = esz (kid 0) := by simp [sumN]
    rcases hk with hk | hk <;> simp only [hk, hn, h2] <;> simp <;> omega
  · have h1 := hi 0 (by omega)
    have h3 := hi 1 (by omega)
    have h2 : sumN 2 (fun i => esz (kid i)) = esz (kid 0) + esz (kid 1) := by simp [sumN]
    simp only [hk, hn, h2]; simp; omega
  · have h1 := hi 0 (by omega)
    have h3 := hi 1 (by omega)
    have h4 := hi 2 (by omega)
    have h2 : sumN 3 (fun i => esz (kid i)) = esz (kid 0) + esz (kid 1) + esz (kid 2) := by simp [sumN]
    simp only [hk, hn, h2]; simp; omega
  have h1 := catN_len (f := fun i => eTx (kid i)) (c := fun i => esz (kid i)) (m := 80) hi
  simp only [hk]; simp; omega
structure SB (w0 w W : World) (B : Nat) (v0 v : Value) (bs : List Int) (cs : List Value) (W' : World) : Prop where
 own : Own8 W' B v bs.length bs
 kp : Kp v0 W v W'
 bx : Box W' w.heap.size cs
 bl : Bl w0 W'
 lo : B ≤ W'.heap.size
 ne : v.ownBlock ≠ some w.heap.size
theorem SB.step {w0 w W : World} {B : Nat} {v0 v v' : Value} {bs bs' : List Int} {cs : List Value} {W' W'' : World} {o : Obj} (h : SB w0 w W B v0 v bs cs W') (hW : W = w.alloc o) (hv0 : v0.ownBlock ≠ some w.heap.size) (hwB : w0.heap.size ≤ B) (hO : Own8 W'' B v' bs'.length bs') (hK : Kp v W' v' W'') : SB w0 w W B v0 v' bs' cs W'' :=
 ⟨hO, h.kp.trans hK, hK.box h.bx h.ne, h.bl.trans ((hK.low (fun g hg => (h.own.2 g hg).1) h.lo).mono hwB), Nat.le_trans h.lo hK.size, (h.kp.trans hK).ne hW hv0⟩
theorem SB.below {w0 w W : World} {B : Nat} {v0 v : Value} {bs : List Int} {cs : List Value} {W' W'' : World} (h : SB w0 w W B v0 v bs cs W') (hb : Below W'.heap.size W' W'') : SB w0 w W B v0 v bs cs W'' :=
 ⟨h.own.below hb, h.kp.trans (Kp.of_below hb), h.bx.below hb, h.bl.trans (hb.mono h.bl.size), Nat.le_trans h.lo hb.size, h.ne⟩
theorem Own8.off1 {w : World} {B n : Nat} {v : Value} {bs : List Int} (h : Own8 w B v n bs) : v.ownBlock ≠ some w.heap.size := fun e => by
 have := (h.2 _ e).2
 omega
def SayE (fn : Nat) (w0 : World) (B : Nat) (e : ET) : Prop := ∀ (v : Value) (bs : List Int) (W : World), Own8 W B v bs.length bs → Bl w0 W → B ≤ W.heap.size → bs.length + 80 * esz e ≤ 900000 → Calls Tryz.prog fn #[v, .agg #[.int .i64 e.d.k, .int .i64 e.d.op, .slice e.d.v.a e.d.v.len e.d.v.cap, .int .i64 e.d.t.t.k, .slice e.d.t.t.a e.d.t.t.len e.d.t.t.cap, .int .i64 e.d.t.t.n, .int .i64 e.d.t.t.s, .slice e.d.ka e.d.n e.d.kc]] W (SayK B v (bs ++ eTx e) W)
def cellsE (d : EN) (k : Int) : List Value := [.int .i64 k, .int .i64 d.op, .slice d.v.a d.v.len d.v.cap, .int .i64 d.t.t.k, .slice d.t.t.a d.t.t.len d.t.t.cap, .int .i64 d.t.t.n, .int .i64 d.t.t.s, .slice d.ka d.n d.kc]
theorem l4op_any (n : Int) (w : World) (h0 : 0 ≤ n) (h1 : n ≤ 7) : Calls Tryz.prog 134 #[.int .i64 n] w fun e w' => ∃ st : ByteArray, e = .returned (.string st) ∧ numsOf st = [opB n] ∧ st.size = 1 ∧ Bl w w' := by
 rcases (by omega : n = 0 ∨ n = 1 ∨ n = 2 ∨ n = 3 ∨ n = 4 ∨ n = 5 ∨ n = 6 ∨ n = 7) with rfl | rfl | rfl | rfl | rfl | rfl | rfl | rfl
 all_goals
  go_in
  go_wp2_with fail
  go_ret
  exact ⟨_, rfl, rfl, rfl, bl_a _⟩
theorem sayExpr_0 (d : EN) (kid : Nat → ET) (hkv : d.k = 0) (lim deep : Int) (v : Value) (B : Nat) (bs : List Int) (w0 w : World) (hl : (ET.mk d kid).lies 0 w0) (hok : eOk lim (.mk d kid) deep) (HO : Own8 w B v bs.length bs) (hw : Bl w0 w) (hwB : w0.heap.size ≤ B) (hB : B ≤ w.heap.size) (hn : bs.length + 80 * esz (.mk d kid) ≤ 900000)
 (_IH : ∀ i, i < d.n → SayE 98 w0 B (kid i)) :
 Calls Tryz.prog 98 #[v, .agg d.ar] w (SayK B v (bs ++ eTx (.mk d kid)) w) := by
 try unfold EN.ar
 obtain ⟨hv, ht, hf, hn2, hR, hk⟩ := hl
 obtain ⟨hdp, ⟨hko, hvo, _, hto, _, hop, _⟩, hkid⟩ := hok
 unfold kOk at hko
 rw [hkv] at hko
 obtain ⟨W, hW⟩ : ∃ W, W = w.alloc (.cells (d.ca 0) 100) := ⟨_, rfl⟩
 have hbW : Bl w W := by rw [hW]; exact bl_a _
 have HWE := iH hW
 have HNV := iH HO.off1
 have HBW := iH hbW
 have HS : Hd (SB w0 w W B v v bs (cellsE d 0) W) := ⟨HO.below hbW, Kp.of_below brf, (show Box _ _ _ by rw [hW]; exact Box.new w (d.ca 0) 100 _), hw.trans (hbW.mono hw.size), Nat.le_trans hB hbW.size, HO.off1⟩
 have hnm := hvo (.inl hkv)
 have HVX : Hd (BsF 0 w0 d.v ∧ d.v.b ≠ [] ∧ d.v.len ≤ 12) := ⟨hv, name_pos hnm, (by have h := (name_len hnm).2; have h2 := hv.1.1; omega)⟩
 have HLN : Hd (bs.length + 80 ≤ 900000) := (show _ ≤ _ by have h : esz (.mk d kid) = 1 + sumN d.n _ := rfl; omega)
 have HT : Hd (bs ++ 63 :: (d.v.b ++ [32]) = bs ++ eTx (.mk d kid)) := (show _ = _ by rw [eTx_mk, hkv]; simp [vTx])
 rw [hkv]
 clear HO hw hB hbW hR hv ht hf hk hko hvo hto hop hdp hkid hkv hn2 hnm
 go_in
 go_upto_region 1 with fail
 rw [← hW]
 clear hW
 have x0 := HS.o.bx.2 0 _ rfl
 have x2 := HS.o.bx.2 2 _ rfl
 have HS0 := HS
 go_wp2_with fail
 refine (l4sayVarK v B bs d.v w0 _ HS.o.own HVX.o.1 HS.o.bl hwB HS.o.lo HVX.o.2.1 (by have h := HLN.o; have h2 := HVX.o.2.2; omega)).mono ?_
 rintro e z1 ⟨v1, rfl, hO1, hK1⟩
 have HS1 := iH (HS0.o.step HWE.o HNV.o hwB hO1 hK1)
 clear hO1 hK1
 clear HS HS0 x0 x2
 go_wp2_with fail
 go_ret
 exact ⟨_, rfl, HT.o ▸ HS1.o.own, Kp.pre HBW.o HS1.o.kp⟩
theorem sayExpr_1 (d : EN) (kid : Nat → ET) (hkv : d.k = 1) (lim deep : Int) (v : Value) (B : Nat) (bs : List Int) (w0 w : World) (hl : (ET.mk d kid).lies 0 w0) (hok : eOk lim (.mk d kid) deep) (HO : Own8 w B v bs.length bs) (hw : Bl w0 w) (_hwB : w0.heap.size ≤ B) (hB : B ≤ w.heap.size) (hn : bs.length + 80 * esz (.mk d kid) ≤ 900000)
 (_IH : ∀ i, i < d.n → SayE 98 w0 B (kid i)) :
 Calls Tryz.prog 98 #[v, .agg d.ar] w (SayK B v (bs ++ eTx (.mk d kid)) w) := by
 try unfold EN.ar
 obtain ⟨hv, ht, hf, hn2, hR, hk⟩ := hl
 obtain ⟨hdp, ⟨hko, hvo, _, hto, _, hop, _⟩, hkid⟩ := hok
 unfold kOk at hko
 rw [hkv] at hko
 obtain ⟨W, hW⟩ : ∃ W, W = w.alloc (.cells (d.ca 1) 100) := ⟨_, rfl⟩
 have hbW : Bl w W := by rw [hW]; exact bl_a _
 have HWE := iH hW
 have HNV := iH HO.off1
 have HBW := iH hbW
 have HS : Hd (SB w0 w W B v v bs (cellsE d 1) W) := ⟨HO.below hbW, Kp.of_below brf, (show Box _ _ _ by rw [hW]; exact Box.new w (d.ca 1) 100 _), hw.trans (hbW.mono hw.size), Nat.le_trans hB hbW.size, HO.off1⟩
 have htk := hto hkv
 have HLN : Hd (bs.length + 80 ≤ 900000) := (show _ ≤ _ by have h : esz (.mk d kid) = 1 + sumN d.n _ := rfl; omega)
 have HT : Hd (bs ++ d.t.t.show d.t.b ++ [32] = bs ++ eTx (.mk d kid)) := (show _ = _ by rw [eTx_mk, hkv]; simp [tTx])
 have HSL : Hd (1 ≤ (d.t.t.show d.t.b).length ∧ (d.t.t.show d.t.b).length ≤ 64) := Tm.show_len htk
 have SH := hidU (l1show_any d.t.t.k d.t.t.n d.t.t.s d.t.t.a d.t.t.len d.t.t.cap d.t.b W (ht.1.below HS.o.bl) htk)
 rw [hkv]
 clear HO hw hB hbW hR hv ht hf hk hko hvo hto hop hdp hkid hkv hn2 htk
 go_in
 go_upto_region 1 with fail
 rw [← hW]
 clear hW
 have x0 := HS.o.bx.2 0 _ rfl
 have x3 := HS.o.bx.2 3 _ rfl
 have x4 := HS.o.bx.2 4 _ rfl
 have x5 := HS.o.bx.2 5 _ rfl
 have x6 := HS.o.bx.2 6 _ rfl
 go_wp2_with fail
 refine SH.o.mono ?_
 rintro e w1 ⟨g1, c1, rfl, hR1, hb1⟩
 have HS1 := iH (HS.o.below hb1)
 have HOw := hidU HS1.o.own
 have HN1 := hidU (show ∀ j u, ((Tm.show d.t.t d.t.b).map (Value.int .u8))[j]? = some u → w1.cell? ((⟨g1, 0, none⟩ : Addr).add j) = some u from hR1.news)
 have hBw := HS1.o.lo
 have HKW := iH (Kp.pre HBW.o HS1.o.kp)
 obtain ⟨n, hnn⟩ : ∃ n, n = bs.length := ⟨_, rfl⟩
 have hn9 : n + 80 ≤ 900000 := by have h := HLN.o; omega
 obtain ⟨L, hL⟩ : ∃ L, L = Tm.show d.t.t d.t.b := ⟨_, rfl⟩
 have e9 : showL d.t.t.k d.t.t.n d.t.t.s d.t.b = L := hL.symm
 rw [e9]
 rw [← hL] at HN1 HSL HT
 obtain ⟨q, hq⟩ : ∃ q, q = L.length := ⟨_, rfl⟩
 have hq1 : 0 < q := by have h := HSL.o.1; omega
 have hq2 : q ≤ 64 := by have h := HSL.o.2; omega
 have HQ := iH hq.symm
 have HNN := iH hnn
 rw [← hnn] at HOw
 rw [← hq]
 clear hR1 hb1 hq hnn SH HS HS1 x0 x3 x4 x5 x6 hL e9
 go_wp2_with (first
  | (refine app8k rfl (.tmp 16) (.tmp 19) rfl B v n bs rfl HOw ⟨g1, 0, none⟩ q c1 L rfl HQ.o HN1 hq1 (n + q) rfl (bs ++ L) rfl (by omega) hBw ?_; intro g4 c4 w4 HR4 HK4; have HO4 := hidU (HR4.o.below (bl_a (.cells #[.int .u8 32] 5))); have HN4 := hidU (one_news w4 32); have hB4 : B ≤ (w4.alloc (.cells #[.int .u8 32] 5)).heap.size := Nat.le_trans hBw (Nat.le_trans HK4.o.size (by simp)); clear HN1 HOw hBw)
  | (refine app8k rfl (.tmp 20) (.tmp 21) rfl B (.slice (some ⟨g4, 0, none⟩) (n + q) c4) (n + q) (bs ++ L) rfl HO4 ⟨w4.heap.size, 0, none⟩ 1 1 [32] rfl rfl HN4 (by omega) (n + q + 1) rfl (bs ++ L ++ [32]) rfl (by omega) hB4 ?_; intro g5 c5 w5 HR5 HK5; clear HO4 HN4 hB4))
 go_ret
 refine ⟨_, rfl, HR5.o.to HT.o ?_, HKW.o.trans (HK4.o.trans (Kp.pre (bl_a _) HK5.o))⟩
 have h := HR5.o.len
 rw [← HT.o]
 exact h.symm
theorem sayExpr_2 (d : EN) (kid : Nat → ET) (hkv : d.k = 2) (lim deep : Int) (v : Value) (B : Nat) (bs : List Int) (w0 w : World) (hl : (ET.mk d kid).lies 0 w0) (hok : eOk lim (.mk d kid) deep) (HO : Own8 w B v bs.length bs) (hw : Bl w0 w) (hwB : w0.heap.size ≤ B) (hB : B ≤ w.heap.size) (hn : bs.length + 80 * esz (.mk d kid) ≤ 900000)
 (IH : ∀ i, i < d.n → SayE 98 w0 B (kid i)) :
 Calls Tryz.prog 98 #[v, .agg d.ar] w (SayK B v (bs ++ eTx (.mk d kid)) w) := by
 try unfold EN.ar
 obtain ⟨hv, ht, hf, hn2, hR, hk⟩ := hl
 obtain ⟨hdp, ⟨hko, hvo, _, hto, _, hop, _⟩, hkid⟩ := hok
 unfold kOk at hko
 rw [hkv] at hko
 obtain ⟨W, hW⟩ : ∃ W, W = w.alloc (.cells (d.ca 2) 100) := ⟨_, rfl⟩
 have hbW : Bl w W := by rw [hW]; exact bl_a _
 have HWE := iH hW
 have HNV := iH HO.off1
 have HBW := iH hbW
 have HS : Hd (SB w0 w W B v v bs (cellsE d 2) W) := ⟨HO.below hbW, Kp.of_below brf, (show Box _ _ _ by rw [hW]; exact Box.new w (d.ca 2) 100 _), hw.trans (hbW.mono hw.size), Nat.le_trans hB hbW.size, HO.off1⟩
 have HN := iH (show d.n = 2 by omega)
 obtain ⟨b, off, eK, _, hbk, hck⟩ := hR.resolve_left (by have h := HN.o; omega)
 have HEK := iH eK
 have HCK := iH hck
 have HKD := iH IH
 have HKL := iH (fun i (hi : i < d.n) => eTx_len (hkid i hi))
 clear eK hck
 have HLN : Hd (bs.length + 80 * (1 + (esz (kid 0) + esz (kid 1))) ≤ 900000) := (show _ ≤ _ by have h : esz (.mk d kid) = 1 + sumN d.n _ := rfl; rw [HN.o] at h; have h2 : sumN 2 (fun i => esz (kid i)) = esz (kid 0) + esz (kid 1) := (by simp [sumN]); omega)
 have HT : Hd (bs ++ [40, 32] ++ eTx (kid 0) ++ [opB d.op, 32] ++ eTx (kid 1) ++ [41, 32] = bs ++ eTx (.mk d kid)) := (show _ = _ by rw [eTx_mk, hkv]; simp)
 have hb0 : 0 < d.n := by have h := HN.o; omega
 have hb1 : 1 < d.n := by have h := HN.o; omega
 have hb1z : (1 : Int) < (d.n : Int) := by have h := HN.o; omega
 have HOP := iH hop
 have HF : Hd (∀ w', (Bl w0 w' ∧ Box w' w.heap.size (cellsE d 2)) → w'.cell? ⟨w.heap.size, 7, none⟩ = some (.slice (some ⟨b, off, none⟩) d.n d.kc) ∧ w'.cell? ⟨w.heap.size, 1, none⟩ = some (.int .i64 d.op) ∧ True) := fun w' hw' => ⟨(by have h := hw'.2.2 7 _ rfl; rw [HEK.o] at h; exact h), hw'.2.2 1 _ rfl, trivial⟩
 have HRG0 : Hd (∀ w', (Bl w0 w' ∧ Box w' w.heap.size (cellsE d 2)) → w'.rangeAt b off (kid 0).d.cl) := fun w' hw' c u hu => (hw'.1.cell (p := ⟨b, off + c, none⟩) hbk).trans (by have h := HCK.o 0 (by have h := HN.o; omega) c u hu; simpa using h)
 rw [hkv]
 clear HO hw hB hbW hR hv ht hf hk hko hvo hto hop hdp hkid hkv hn2 IH
 go_in
 go_upto_region 1 with fail
 rw [← hW]
 clear hW
 have x0 := HS.o.bx.2 0 _ rfl
 have HS0 := iH (HS.o.below bdr)
 go_wp2_with fail
 refine whd (fun w' => Bl w0 w' ∧ Box w' w.heap.size (cellsE d 2)) ?_ fun hHeld => ?_
 · exact ⟨Below.drew HS.o.bl, HS.o.bx.below bdr⟩
 refine tkB 0 25 ?_
 refine tkB 2 27 ?_
 refine tkA 3 28 (v := ?v3) ?y3 ?_
 case y3 => (intro w' hSw; obtain ⟨q1, q2, q3⟩ := HF.o w' hSw; go_simp; (try with_reducible rfl))
 refine tkB 4 29 ?_
 refine takeq (i := 5) 30 (v := .agg (kid 0).d.ar) rfl rfl (by kernel_rfl) (by kernel_rfl) (by kernel_rfl) (fun _ _ _ h => h) (yieldsIf_load_mid (by rfl) 100 _ rfl b off rfl (kid 0).d.cl _ HRG0.o Tryz.underlying100 rfl (by kernel_rfl)) hHeld ?_
 refine tkB 7 32 ?_
 refine tkA 8 33 (v := ?v6) ?y6 ?_
 case y6 => (intro w' hSw; obtain ⟨q1, q2, q3⟩ := HF.o w' hSw; go_simp; (try with_reducible rfl))
 try simp only [Act.put, sA, zA, cA]
 refine rdA 1 fun K hK => ?_
 go_simp
 refine (l4wordK v B (bs) ⟨#[40]⟩ _ HS0.o.own HS0.o.lo (by decide) (by have h := HLN.o; (try simp only [lA, lC, lN]); rw [show (ByteArray.mk #[40]).size = 1 from rfl]; omega)).mono ?_
 rintro e z1 ⟨v1, rfl, hO1, hK1⟩
 have HS1 : Hd (SB w0 w W B v v1 (bs ++ [40, 32]) (cellsE d 2) z1) := HS0.o.step HWE.o HNV.o hwB hO1 hK1
 clear hO1 hK1
 go_wp2_with fail
 refine hK.out _ _ ?_ fun hHeld => ?_
 · exact ⟨HS1.o.bl, HS1.o.bx⟩
 clear hK K
 try simp only [Act.put, sA, zA, cA]
 refine rdA 6 fun K hK => ?_
 go_simp
 refine ((HKD.o 0 (by have h := HN.o; omega)) v1 (bs ++ [40, 32]) _ HS1.o.own HS1.o.bl HS1.o.lo (by have h := HLN.o; have h0 := HKL.o 0 (by have h := HN.o; omega); have h1 := HKL.o 1 (by have h := HN.o; omega); simp only [lA, lC, lN]; omega)).mono ?_
 rintro e z2 ⟨v2, rfl, hO2, hK2⟩
 have HS2 := iH (HS1.o.step HWE.o HNV.o hwB hO2 hK2)
 clear hO2 hK2
 go_wp2_with fail
 refine hK.out _ _ ?_ fun hHeld => ?_
 · exact ⟨HS2.o.bl, HS2.o.bx⟩
 clear hK K
 try simp only [Act.put, sA, zA, cA]
 refine rdA 9 fun K hK => ?_
 go_simp
 refine (l4op_any d.op _ HOP.o.1 HOP.o.2).mono ?_
 rintro e zo ⟨st, rfl, hst, hsz, hbo⟩
 have HS2o := iH (HS2.o.below hbo)
 have HST : Hd (numsOf st ++ [32] = [opB d.op, 32] ∧ st.size = 1) := ⟨by rw [hst]; rfl, hsz⟩
 clear hst hsz hbo HS2
 go_wp2_with fail
 refine hK.out _ _ ?_ fun hHeld => ?_
 · exact ⟨HS2o.o.bl, HS2o.o.bx⟩
 clear hK K
 try simp only [Act.put, sA, zA, cA]
 have HS2 := HS2o
 clear HS2o
 refine rdA 10 fun K hK => ?_
 go_simp
 refine (l4wordK v2 B _ st _ HS2.o.own HS2.o.lo (by rw [HST.o.2]; decide) (by have h := HLN.o; have h0 := HKL.o 0 (by have h := HN.o; omega); rw [HST.o.2]; simp only [lA, lC, lN]; omega)).mono ?_
 rintro e z3 ⟨v3, rfl, hO3, hK3⟩
 have HS3 := iH (HS2.o.step HWE.o HNV.o hwB hO3 hK3)
 clear hO3 hK3
 go_wp2_with fail
 refine hK.out _ _ ?_ fun hHeld => ?_
 · exact ⟨HS3.o.bl, HS3.o.bx⟩
 clear hK K
 refine tkB 11 0 ?_
 refine wpAnyH_done (by kernel_rfl) ?_ _
 clear hHeld HF HS0 HS1 HS2 HS
 rw [HST.o.1] at HS3
 have x7 := HS3.o.bx.2 7 _ rfl
 rw [HEK.o] at x7
 have hcx : z3.rangeAt b (off + 8) (kid 1).d.cl := fun c u hu => (HS3.o.bl.cell (p := ⟨b, off + 8 + c, none⟩) hbk).trans (by have h := HCK.o 1 (by have h := HN.o; omega) c u hu; simpa using h)
 go_wp2_with (with_reducible refine wpq_at ?_; refine wpList_load_mid rfl 100 _ rfl b (off + 8) rfl (kid 1).d.cl _ hcx Tryz.underlying100 rfl (by kernel_rfl) ?_; try simp only [Act.put, sA, zA, cA])
 refine ((HKD.o 1 (by have h := HN.o; omega)) v3 _ _ HS3.o.own HS3.o.bl HS3.o.lo (by have h := HLN.o; have h0 := HKL.o 0 (by have h := HN.o; omega); have h1 := HKL.o 1 (by have h := HN.o; omega); simp only [lA, lC, lN]; omega)).mono ?_
 rintro e z4 ⟨v4, rfl, hO4, hK4⟩
 have HS4 := iH (HS3.o.step HWE.o HNV.o hwB hO4 hK4)
 clear hO4 hK4
 clear hcx x7 HS3
 go_wp2_with fail
 refine (l4wordK v4 B _ ⟨#[41]⟩ _ HS4.o.own HS4.o.lo (by decide) (by have h := HLN.o; have h0 := HKL.o 0 (by have h := HN.o; omega); have h1 := HKL.o 1 (by have h := HN.o; omega); (try simp only [lA, lC, lN]); rw [show (ByteArray.mk #[41]).size = 1 from rfl]; omega)).mono ?_
 rintro e z5 ⟨v5, rfl, hO5, hK5⟩
 have HS5 : Hd (SB w0 w W B v v5 (bs ++ [40, 32] ++ eTx (kid 0) ++ [opB d.op, 32] ++ eTx (kid 1) ++ [41, 32]) (cellsE d 2) z5) := HS4.o.step HWE.o HNV.o hwB hO5 hK5
 clear hO5 hK5
 clear HS4
 go_wp2_with fail
 go_ret
 exact ⟨_, rfl, HT.o ▸ HS5.o.own, Kp.pre HBW.o HS5.o.kp⟩
theorem sayExpr_3 (d : EN) (kid : Nat → ET) (hkv : d.k = 3) (lim deep : Int) (v : Value) (B : Nat) (bs : List Int) (w0 w : World) (hl : (ET.mk d kid).lies 0 w0) (hok : eOk lim (.mk d kid) deep) (HO : Own8 w B v bs.length bs) (hw : Bl w0 w) (hwB : w0.heap.size ≤ B) (hB : B ≤ w.heap.size) (hn : bs.length + 80 * esz (.mk d kid) ≤ 900000)
 (IH : ∀ i, i < d.n → SayE 98 w0 B (kid i)) :
 Calls Tryz.prog 98 #[v, .agg d.ar] w (SayK B v (bs ++ eTx (.mk d kid)) w) := by
 try unfold EN.ar
 obtain ⟨hv, ht, hf, hn2, hR, hk⟩ := hl
 obtain ⟨hdp, ⟨hko, hvo, _, hto, _, hop, _⟩, hkid⟩ := hok
 unfold kOk at hko
 rw [hkv] at hko
 obtain ⟨W, hW⟩ : ∃ W, W = w.alloc (.cells (d.ca 3) 100) := ⟨_, rfl⟩
 have hbW : Bl w W := by rw [hW]; exact bl_a _
 have HWE := iH hW
 have HNV := iH HO.off1
 have HBW := iH hbW
 have HS : Hd (SB w0 w W B v v bs (cellsE d 3) W) := ⟨HO.below hbW, Kp.of_below brf, (show Box _ _ _ by rw [hW]; exact Box.new w (d.ca 3) 100 _), hw.trans (hbW.mono hw.size), Nat.le_trans hB hbW.size, HO.off1⟩
 have HN := iH (show d.n = 1 by omega)
 obtain ⟨b, off, eK, _, hbk, hck⟩ := hR.resolve_left (by have h := HN.o; omega)
 have HEK := iH eK
 have HCK := iH hck
 have HKD := iH IH
 have HKL := iH (fun i (hi : i < d.n) => eTx_len (hkid i hi))
 clear eK hck
 have HLN : Hd (bs.length + 80 * (1 + esz (kid 0)) ≤ 900000) := (show _ ≤ _ by have h : esz (.mk d kid) = 1 + sumN d.n _ := rfl; rw [HN.o] at h; have h2 : sumN 1 (fun i => esz (kid i)) = esz (kid 0) := (by simp [sumN]); omega)
 have HT : Hd (bs ++ [78, 79, 84, 32] ++ eTx (kid 0) = bs ++ eTx (.mk d kid)) := (show _ = _ by rw [eTx_mk, hkv]; simp)
 have hb0 : 0 < d.n := by have h := HN.o; omega
 have HF : Hd (∀ w', (Bl w0 w' ∧ Box w' w.heap.size (cellsE d 3)) → w'.cell? ⟨w.heap.size, 7, none⟩ = some (.slice (some ⟨b, off, none⟩) d.n d.kc) ∧ w'.cell? ⟨w.heap.size, 1, none⟩ = some (.int .i64 d.op) ∧ True) := fun w' hw' => ⟨(by have h := hw'.2.2 7 _ rfl; rw [HEK.o] at h; exact h), hw'.2.2 1 _ rfl, trivial⟩
 have HRG0 : Hd (∀ w', (Bl w0 w' ∧ Box w' w.heap.size (cellsE d 3)) → w'.rangeAt b off (kid 0).d.cl) := fun w' hw' c u hu => (hw'.1.cell (p := ⟨b, off + c, none⟩) hbk).trans (by have h := HCK.o 0 (by have h := HN.o; omega) c u hu; simpa using h)
 rw [hkv]
 clear HO hw hB hbW hR hv ht hf hk hko hvo hto hop hdp hkid hkv hn2 IH
 go_in
 go_upto_region 1 with fail
 rw [← hW]
 clear hW
 have x0 := HS.o.bx.2 0 _ rfl
 have HS0 := iH (HS.o.below bdr)
 go_wp2_with fail
 refine whd (fun w' => Bl w0 w' ∧ Box w' w.heap.size (cellsE d 3)) ?_ fun hHeld => ?_
 · exact ⟨Below.drew HS.o.bl, HS.o.bx.below bdr⟩
 refine tkB 0 45 ?_
 refine tkB 2 47 ?_
 refine tkA 3 48 (v := ?v10) ?y10 ?_
 case y10 => (intro w' hSw; obtain ⟨q1, q2, q3⟩ := HF.o w' hSw; go_simp; (try with_reducible rfl))
 refine tkB 4 49 ?_
 refine takeq (i := 5) 50 (v := .agg (kid 0).d.ar) rfl rfl (by kernel_rfl) (by kernel_rfl) (by kernel_rfl) (fun _ _ _ h => h) (yieldsIf_load_mid (by rfl) 100 _ rfl b off rfl (kid 0).d.cl _ HRG0.o Tryz.underlying100 rfl (by kernel_rfl)) hHeld ?_
 try simp only [Act.put, sA, zA, cA]
 refine rdA 1 fun K hK => ?_
 go_simp
 refine (l4wordK v B (bs) _ _ HS0.o.own HS0.o.lo (by decide) (by have h := HLN.o; (try simp only [lA, lC, lN]); rw [show (ByteArray.mk #[78, 79, 84]).size = 3 from rfl]; omega)).mono ?_
 rintro e z1 ⟨v1, rfl, hO1, hK1⟩
 have HS1 : Hd (SB w0 w W B v v1 (bs ++ [78, 79, 84, 32]) (cellsE d 3) z1) := HS0.o.step HWE.o HNV.o hwB hO1 hK1
 clear hO1 hK1
 go_wp2_with fail
 refine hK.out _ _ ?_ fun hHeld => ?_
 · exact ⟨HS1.o.bl, HS1.o.bx⟩
 clear hK K
 try simp only [Act.put, sA, zA, cA]
 refine rdA 6 fun K hK => ?_
 go_simp
 refine ((HKD.o 0 (by have h := HN.o; omega)) v1 _ _ HS1.o.own HS1.o.bl HS1.o.lo (by have h := HLN.o; have h0 := HKL.o 0 (by have h := HN.o; omega); simp only [lA, lC, lN]; omega)).mono ?_
 rintro e z2 ⟨v2, rfl, hO2, hK2⟩
 have HS2 := iH (HS1.o.step HWE.o HNV.o hwB hO2 hK2)
 clear hO2 hK2
 go_wp2_with fail
 refine hK.out _ _ ?_ fun hHeld => ?_
 · exact ⟨HS2.o.bl, HS2.o.bx⟩
 clear hK K
 refine tkB 7 4 ?_
 refine wpAnyH_done (by kernel_rfl) ?_ _
 clear hHeld HF HS0 HS1 HS
 go_wp2_with fail
 go_ret
 exact ⟨_, rfl, HT.o ▸ HS2.o.own, Kp.pre HBW.o HS2.o.kp⟩
theorem sayExpr_4 (d : EN) (kid : Nat → ET) (hkv : d.k = 4) (lim deep : Int) (v : Value) (B : Nat) (bs : List Int) (w0 w : World) (hl : (ET.mk d kid).lies 0 w0) (hok : eOk lim (.mk d kid) deep) (HO : Own8 w B v bs.length bs) (hw : Bl w0 w) (hwB : w0.heap.size ≤ B) (hB : B ≤ w.heap.size) (hn : bs.length + 80 * esz (.mk d kid) ≤ 900000)
 (_IH : ∀ i, i < d.n → SayE 98 w0 B (kid i)) :
 Calls Tryz.prog 98 #[v, .agg d.ar] w (SayK B v (bs ++ eTx (.mk d kid)) w) := by
 try unfold EN.ar
 obtain ⟨hv, ht, hf, hn2, hR, hk⟩ := hl
 obtain ⟨hdp, ⟨hko, hvo, _, hto, _, hop, _⟩, hkid⟩ := hok
 unfold kOk at hko
 rw [hkv] at hko
 obtain ⟨W, hW⟩ : ∃ W, W = w.alloc (.cells (d.ca 4) 100) := ⟨_, rfl⟩
 have hbW : Bl w W := by rw [hW]; exact bl_a _
 have HWE := iH hW
 have HNV := iH HO.off1
 have HBW := iH hbW
 have HS : Hd (SB w0 w W B v v bs (cellsE d 4) W) := ⟨HO.below hbW, Kp.of_below brf, (show Box _ _ _ by rw [hW]; exact Box.new w (d.ca 4) 100 _), hw.trans (hbW.mono hw.size), Nat.le_trans hB hbW.size, HO.off1⟩
 have hnm := hvo (.inr hkv)
 have HVX : Hd (BsF 0 w0 d.v ∧ d.v.b ≠ [] ∧ d.v.len ≤ 12) := ⟨hv, name_pos hnm, (by have h := (name_len hnm).2; have h2 := hv.1.1; omega)⟩
 have HLN : Hd (bs.length + 80 ≤ 900000) := (show _ ≤ _ by have h : esz (.mk d kid) = 1 + sumN d.n _ := rfl; omega)
 have HT : Hd (bs ++ [66, 79, 85, 78, 68, 32] ++ 63 :: (d.v.b ++ [32]) = bs ++ eTx (.mk d kid)) := (show _ = _ by rw [eTx_mk, hkv]; simp [vTx])
 have HF : Hd (∀ w', (Bl w0 w' ∧ Box w' w.heap.size (cellsE d 4)) → w'.cell? ⟨w.heap.size, 2, none⟩ = some (.slice d.v.a d.v.len d.v.cap) ∧ True ∧ True) := fun w' hw' => ⟨hw'.2.2 2 _ rfl, trivial, trivial⟩
 rw [hkv]
 clear HO hw hB hbW hR hv ht hf hk hko hvo hto hop hdp hkid hkv hn2 hnm
 go_in
 go_upto_region 1 with fail
 rw [← hW]
 clear hW
 have x0 := HS.o.bx.2 0 _ rfl
 have HS0 := iH (HS.o.below bdr)
 go_wp2_with fail
 refine whd (fun w' => Bl w0 w' ∧ Box w' w.heap.size (cellsE d 4)) ?_ fun hHeld => ?_
 · exact ⟨Below.drew HS.o.bl, HS.o.bx.below bdr⟩
 refine tkB 0 54 ?_
 refine tkB 2 56 ?_
 refine tkA 3 57 (v := ?v15) ?y15 ?_
 case y15 => (intro w' hSw; obtain ⟨q1, q2, q3⟩ := HF.o w' hSw; go_simp; (try with_reducible rfl))
 try simp only [Act.put, sA, zA, cA]
 refine rdA 1 fun K hK => ?_
 go_simp
 refine (l4wordK v B (bs) _ _ HS0.o.own HS0.o.lo (by decide) (by have h := HLN.o; (try simp only [lA, lC, lN]); rw [show (ByteArray.mk #[66, 79, 85, 78, 68]).size = 5 from rfl]; omega)).mono ?_
 rintro e z1 ⟨v1, rfl, hO1, hK1⟩
 have HS1 : Hd (SB w0 w W B v v1 (bs ++ [66, 79, 85, 78, 68, 32]) (cellsE d 4) z1) := HS0.o.step HWE.o HNV.o hwB hO1 hK1
 clear hO1 hK1
 go_wp2_with fail
 refine hK.out _ _ ?_ fun hHeld => ?_
 · exact ⟨HS1.o.bl, HS1.o.bx⟩
 clear hK K
 try simp only [Act.put, sA, zA, cA]
 refine rdA 4 fun K hK => ?_
 go_simp
 refine (l4sayVarK v1 B _ d.v w0 _ HS1.o.own HVX.o.1 HS1.o.bl hwB HS1.o.lo HVX.o.2.1 (by have h := HLN.o; have h2 := HVX.o.2.2; simp only [lA, lC, lN]; omega)).mono ?_
 rintro e z2 ⟨v2, rfl, hO2, hK2⟩
 have HS2 := iH (HS1.o.step HWE.o HNV.o hwB hO2 hK2)
 clear hO2 hK2
 go_wp2_with fail
 refine hK.out _ _ ?_ fun hHeld => ?_
 · exact ⟨HS2.o.bl, HS2.o.bx⟩
 clear hK K
 refine tkB 5 4 ?_
 refine wpAnyH_done (by kernel_rfl) ?_ _
 clear hHeld HF HS0 HS1 HS
 go_wp2_with fail
 go_ret
 exact ⟨_, rfl, HT.o ▸ HS2.o.own, Kp.pre HBW.o HS2.o.kp⟩
theorem sayExpr_5 (d : EN) (kid : Nat → ET) (hkv : d.k = 5) (lim deep : Int) (v : Value) (B : Nat) (bs : List Int) (w0 w : World) (hl : (ET.mk d kid).lies 0 w0) (hok : eOk lim (.mk d kid) deep) (HO : Own8 w B v bs.length bs) (hw : Bl w0 w) (hwB : w0.heap.size ≤ B) (hB : B ≤ w.heap.size) (hn : bs.length + 80 * esz (.mk d kid) ≤ 900000)
 (IH : ∀ i, i < d.n → SayE 98 w0 B (kid i)) :
 Calls Tryz.prog 98 #[v, .agg d.ar] w (SayK B v (bs ++ eTx (.mk d kid)) w) := by
 try unfold EN.ar
 obtain ⟨hv, ht, hf, hn2, hR, hk⟩ := hl
 obtain ⟨hdp, ⟨hko, hvo, _, hto, _, hop, _⟩, hkid⟩ := hok
 unfold kOk at hko
 rw [hkv] at hko
 obtain ⟨W, hW⟩ : ∃ W, W = w.alloc (.cells (d.ca 5) 100) := ⟨_, rfl⟩
 have hbW : Bl w W := by rw [hW]; exact bl_a _
 have HWE := iH hW
 have HNV := iH HO.off1
 have HBW := iH hbW
 have HS : Hd (SB w0 w W B v v bs (cellsE d 5) W) := ⟨HO.below hbW, Kp.of_below brf, (show Box _ _ _ by rw [hW]; exact Box.new w (d.ca 5) 100 _), hw.trans (hbW.mono hw.size), Nat.le_trans hB hbW.size, HO.off1⟩
 have HN := iH (show d.n = 3 by omega)
 obtain ⟨b, off, eK, _, hbk, hck⟩ := hR.resolve_left (by have h := HN.o; omega)
 have HEK := iH eK
 have HCK := iH hck
 have HKD := iH IH
 have HKL := iH (fun i (hi : i < d.n) => eTx_len (hkid i hi))
 clear eK hck
 have HLN : Hd (bs.length + 80 * (1 + (esz (kid 0) + esz (kid 1) + esz (kid 2))) ≤ 900000) := (show _ ≤ _ by have h : esz (.mk d kid) = 1 + sumN d.n _ := rfl; rw [HN.o] at h; have h2 : sumN 3 (fun i => esz (kid i)) = esz (kid 0) + esz (kid 1) + esz (kid 2) := (by simp [sumN]); omega)
 have HT : Hd (bs ++ [73, 70, 32] ++ eTx (kid 0) ++ eTx (kid 1) ++ eTx (kid 2) = bs ++ eTx (.mk d kid)) := (show _ = _ by rw [eTx_mk, hkv]; simp)
 have hb0 : 0 < d.n := by have h := HN.o; omega
 have hb1 : 1 < d.n := by have h := HN.o; omega
 have hb1z : (1 : Int) < (d.n : Int) := by have h := HN.o; omega
 have hb2 : 2 < d.n := by have h := HN.o; omega
 have hb2z : (2 : Int) < (d.n : Int) := by have h := HN.o; omega
 have HF : Hd (∀ w', (Bl w0 w' ∧ Box w' w.heap.size (cellsE d 5)) → w'.cell? ⟨w.heap.size, 7, none⟩ = some (.slice (some ⟨b, off, none⟩) d.n d.kc) ∧ w'.cell? ⟨w.heap.size, 1, none⟩ = some (.int .i64 d.op) ∧ True) := fun w' hw' => ⟨(by have h := hw'.2.2 7 _ rfl; rw [HEK.o] at h; exact h), hw'.2.2 1 _ rfl, trivial⟩
 have HRG0 : Hd (∀ w', (Bl w0 w' ∧ Box w' w.heap.size (cellsE d 5)) → w'.rangeAt b off (kid 0).d.cl) := fun w' hw' c u hu => (hw'.1.cell (p := ⟨b, off + c, none⟩) hbk).trans (by have h := HCK.o 0 (by have h := HN.o; omega) c u hu; simpa using h)
 have HRG1 : Hd (∀ w', (Bl w0 w' ∧ Box w' w.heap.size (cellsE d 5)) → w'.rangeAt b (off + 8) (kid 1).d.cl) := fun w' hw' c u hu => (hw'.1.cell (p := ⟨b, (off + 8) + c, none⟩) hbk).trans (by have h := HCK.o 1 (by have h := HN.o; omega) c u hu; simpa using h)
 have HRG2 : Hd (∀ w', (Bl w0 w' ∧ Box w' w.heap.size (cellsE d 5)) → w'.rangeAt b (off + 16) (kid 2).d.cl) := fun w' hw' c u hu => (hw'.1.cell (p := ⟨b, (off + 16) + c, none⟩) hbk).trans (by have h := HCK.o 2 (by have h := HN.o; omega) c u hu; simpa using h)
 rw [hkv]
 clear HO hw hB hbW hR hv ht hf hk hko hvo hto hop hdp hkid hkv hn2 IH
 go_in
 go_upto_region 1 with fail
 rw [← hW]
 clear hW
 have x0 := HS.o.bx.2 0 _ rfl
 have HS0 := iH (HS.o.below bdr)
 go_wp2_with fail
 refine whd (fun w' => Bl w0 w' ∧ Box w' w.heap.size (cellsE d 5)) ?_ fun hHeld => ?_
 · exact ⟨Below.drew HS.o.bl, HS.o.bx.below bdr⟩
 refine tkB 0 61 ?_
 refine tkB 2 63 ?_
 refine tkA 3 64 (v := ?v19) ?y19 ?_
 case y19 => (intro w' hSw; obtain ⟨q1, q2, q3⟩ := HF.o w' hSw; go_simp; (try with_reducible rfl))
 refine tkB 4 65 ?_
 refine takeq (i := 5) 66 (v := .agg (kid 0).d.ar) rfl rfl (by kernel_rfl) (by kernel_rfl) (by kernel_rfl) (fun _ _ _ h => h) (yieldsIf_load_mid (by rfl) 100 _ rfl b off rfl (kid 0).d.cl _ HRG0.o Tryz.underlying100 rfl (by kernel_rfl)) hHeld ?_
 refine tkB 7 68 ?_
 refine tkA 8 69 (v := ?v22) ?y22 ?_
 case y22 => (intro w' hSw; obtain ⟨q1, q2, q3⟩ := HF.o w' hSw; go_simp; (try with_reducible rfl))
 refine tkB 9 70 ?_
 refine takeq (i := 10) 71 (v := .agg (kid 1).d.ar) rfl rfl (by kernel_rfl) (by kernel_rfl) (by kernel_rfl) (fun _ _ _ h => h) (yieldsIf_load_mid (by rfl) 100 _ rfl b (off + 8) rfl (kid 1).d.cl _ HRG1.o Tryz.underlying100 rfl (by kernel_rfl)) hHeld ?_
 refine tkB 12 73 ?_
 refine tkA 13 74 (v := ?v25) ?y25 ?_
 case y25 => (intro w' hSw; obtain ⟨q1, q2, q3⟩ := HF.o w' hSw; go_simp; (try with_reducible rfl))
 refine tkB 14 75 ?_
 refine takeq (i := 15) 76 (v := .agg (kid 2).d.ar) rfl rfl (by kernel_rfl) (by kernel_rfl) (by kernel_rfl) (fun _ _ _ h => h) (yieldsIf_load_mid (by rfl) 100 _ rfl b (off + 16) rfl (kid 2).d.cl _ HRG2.o Tryz.underlying100 rfl (by kernel_rfl)) hHeld ?_
 try simp only [Act.put, sA, zA, cA]
 refine rdA 1 fun K hK => ?_
 go_simp
 refine (l4wordK v B (bs) ⟨#[73, 70]⟩ _ HS0.o.own HS0.o.lo (by decide) (by have h := HLN.o; (try simp only [lA, lC, lN]); rw [show (ByteArray.mk #[73, 70]).size = 2 from rfl]; omega)).mono ?_
 rintro e z1 ⟨v1, rfl, hO1, hK1⟩
 have HS1 : Hd (SB w0 w W B v v1 (bs ++ [73, 70, 32]) (cellsE d 5) z1) := HS0.o.step HWE.o HNV.o hwB hO1 hK1
 clear hO1 hK1
 go_wp2_with fail
 refine hK.out _ _ ?_ fun hHeld => ?_
 · exact ⟨HS1.o.bl, HS1.o.bx⟩
 clear hK K
 try simp only [Act.put, sA, zA, cA]
 refine rdA 6 fun K hK => ?_
 go_simp
 refine ((HKD.o 0 (by have h := HN.o; omega)) v1 _ _ HS1.o.own HS1.o.bl HS1.o.lo (by have h := HLN.o; have h0 := HKL.o 0 (by have h := HN.o; omega); have h1 := HKL.o 1 (by have h := HN.o; omega); have h2 := HKL.o 2 (by have h := HN.o; omega); simp only [lA, lC, lN]; omega)).mono ?_
 rintro e z2 ⟨v2, rfl, hO2, hK2⟩
 have HS2 := iH (HS1.o.step HWE.o HNV.o hwB hO2 hK2)
 clear hO2 hK2
 go_wp2_with fail
 refine hK.out _ _ ?_ fun hHeld => ?_
 · exact ⟨HS2.o.bl, HS2.o.bx⟩
 clear hK K
 try simp only [Act.put, sA, zA, cA]
 refine rdA 11 fun K hK => ?_
 go_simp
 refine ((HKD.o 1 (by have h := HN.o; omega)) v2 _ _ HS2.o.own HS2.o.bl HS2.o.lo (by have h := HLN.o; have h0 := HKL.o 0 (by have h := HN.o; omega); have h1 := HKL.o 1 (by have h := HN.o; omega); have h2 := HKL.o 2 (by have h := HN.o; omega); simp only [lA, lC, lN]; omega)).mono ?_
 rintro e z3 ⟨v3, rfl, hO3, hK3⟩
 have HS3 := iH (HS2.o.step HWE.o HNV.o hwB hO3 hK3)
 clear hO3 hK3
 go_wp2_with fail
 refine hK.out _ _ ?_ fun hHeld => ?_
 · exact ⟨HS3.o.bl, HS3.o.bx⟩
 clear hK K
 try simp only [Act.put, sA, zA, cA]
 refine rdA 16 fun K hK => ?_
 go_simp
 refine ((HKD.o 2 (by have h := HN.o; omega)) v3 _ _ HS3.o.own HS3.o.bl HS3.o.lo (by have h := HLN.o; have h0 := HKL.o 0 (by have h := HN.o; omega); have h1 := HKL.o 1 (by have h := HN.o; omega); have h2 := HKL.o 2 (by have h := HN.o; omega); simp only [lA, lC, lN]; omega)).mono ?_
 rintro e z4 ⟨v4, rfl, hO4, hK4⟩
 have HS4 := iH (HS3.o.step HWE.o HNV.o hwB hO4 hK4)
 clear hO4 hK4
 go_wp2_with fail
 refine hK.out _ _ ?_ fun hHeld => ?_
 · exact ⟨HS4.o.bl, HS4.o.bx⟩
 clear hK K
 refine tkB 17 4 ?_
 refine wpAnyH_done (by kernel_rfl) ?_ _
 clear hHeld HF HS0 HS1 HS2 HS3 HS
 go_wp2_with fail
 go_ret
 exact ⟨_, rfl, HT.o ▸ HS4.o.own, Kp.pre HBW.o HS4.o.kp⟩
end Go.Proofs.YthljoojcpbignaaGreatDoor
