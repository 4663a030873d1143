import Derived.Test.YthljoojcpbignaaGreatDoorMk26
import Derived.Test.YthljoojcpbignaaGreatDoorMk01
import Derived.Test.YthljoojcpbignaaGreatDoorMk27
import Derived.Test.YthljoojcpbignaaGreatDoorMk12
namespace Go.Proofs.YthljoojcpbignaaGreatDoor
/- UtN7 -/
open Go.RowKit Go.Deep
set_option maxHeartbeats 40000000
set_option maxRecDepth 100000
theorem sayExpr_7 (d : EN) (kid : Nat → ET) (hkv : d.k = 7) (lim deep : Int) (v : Value) (B : Nat) (bs : List Int) (w0 w : World) (hl : (ET.mk d kid).lies 0 w0) (hok : eOk lim (.mk d kid) deep) (HO : Own8 w B v bs.length bs) (hw : Bl w0 w) (hwB : w0.heap.size ≤ B) (hB : B ≤ w.heap.size) (hn : bs.length + 80 * esz (.mk d kid) ≤ 900000)
   (IH : ∀ i, i < d.n → SayE 98 w0 B (kid i)) :
   Calls Tryz.prog 98 #[v, .agg d.ar] w (SayK B v (bs ++ eTx (.mk d kid)) w) := by
 try unfold EN.ar
 obtain ⟨hv, ht, hf, hn2, hR, hk⟩ := hl
 obtain ⟨hdp, ⟨hko, hvo, _, hto, _, hop, _⟩, hkid⟩ := hok
 unfold kOk at hko
 rw [hkv] at hko
 obtain ⟨W, hW⟩ : ∃ W, W = w.alloc (.cells (d.ca 7) 100) := ⟨_, rfl⟩
 have hbW : Bl w W := by rw [hW]; exact bl_a _
 have HWE := hid hW
 have HNV := hid HO.off1
 have HBW := hid hbW
 have HS : Hid (SB w0 w W B v v bs (cellsE d 7) W) := ⟨HO.below hbW, Kp.of_below (Below.refl _ _), (show Box _ _ _ by rw [hW]; exact Box.new w (d.ca 7) 100 _), hw.trans (hbW.mono hw.size), Nat.le_trans hB hbW.size, HO.off1⟩
 have HN := hid (show d.n = 1 by omega)
 obtain ⟨b, off, eK, _, hbk, hck⟩ := hR.resolve_left (by have h := HN.out; omega)
 have HEK := hid eK
 have HCK := hid hck
 have HKD := hid IH
 have HKL := hid (fun i (hi : i < d.n) => eTx_len (hkid i hi))
 clear eK hck
 have HLN : Hid (bs.length + 80 * (1 + esz (kid 0)) ≤ 900000) := (show _ ≤ _ by have h : esz (.mk d kid) = 1 + sumN d.n _ := rfl; rw [HN.out] at h; have h2 : sumN 1 (fun i => esz (kid i)) = esz (kid 0) := (by simp [sumN]); omega)
 have HT : Hid (bs ++ [76, 69, 78, 32] ++ eTx (kid 0) = bs ++ eTx (.mk d kid)) := (show _ = _ by rw [eTx_mk, hkv]; simp)
 have hb0 : 0 < d.n := by have h := HN.out; omega
 have HF : Hid (∀ w', (Bl w0 w' ∧ Box w' w.heap.size (cellsE d 7)) → w'.cell? ⟨w.heap.size, 7, none⟩ = some (.slice (some ⟨b, off, none⟩) d.n d.kc) ∧ w'.cell? ⟨w.heap.size, 1, none⟩ = some (.int .i64 d.op) ∧ True) := fun w' hw' => ⟨(by have h := hw'.2.2 7 _ rfl; rw [HEK.out] at h; exact h), hw'.2.2 1 _ rfl, trivial⟩
 have HRG0 : Hid (∀ w', (Bl w0 w' ∧ Box w' w.heap.size (cellsE d 7)) → w'.rangeAt b off (kid 0).d.cl) := fun w' hw' c u hu => (hw'.1.cell (p := ⟨b, off + c, none⟩) hbk).trans (by have h := HCK.out 0 (by have h := HN.out; omega) c u hu; simpa using h)
 rw [hkv]
 clear HO hw hB hbW hR hv ht hf hk hko hvo hto hop hdp hkid hkv hn2 IH
 go_in
 go_upto_region 1 with fail
 rw [← hW]
 clear hW
 have x0 := HS.out.bx.2 0 _ rfl
 have HS0 := hid (HS.out.below bdr)
 go_wp2_with fail
 refine wp_region_held_drew (S := fun w' => Bl w0 w' ∧ Box w' w.heap.size (cellsE d 7)) (by kernel_rfl) ?_ (fun hHeld => ?_)
 · exact ⟨Below.drew HS.out.bl, HS.out.bx.below bdr⟩
 refine tkB 0 80 ?_
 refine tkB 2 82 ?_
 refine tkA 3 83 (v := ?v30) ?y30 ?_
 case y30 => (intro w' hSw; obtain ⟨q1, q2, q3⟩ := HF.out w' hSw; go_simp; (try with_reducible rfl))
 refine tkB 4 84 ?_
 refine takeq (i := 5) 85 (v := .agg (kid 0).d.ar) rfl rfl (by kernel_rfl) (by kernel_rfl) (by kernel_rfl) (fun _ _ _ h => h) (yieldsIf_load_mid (by rfl) 100 _ rfl b off rfl (kid 0).d.cl _ HRG0.out Tryz.underlying100 rfl (by kernel_rfl)) hHeld ?_
 try simp only [Act.put, sA, zA, cA]
 refine rdA 1 fun K hK => ?_
 go_simp
 refine (l4wordK v B (bs) _ _ HS0.out.own HS0.out.lo (by decide) (by have h := HLN.out; (try simp only [lA, lC, lN]); rw [show (ByteArray.mk #[76, 69, 78]).size = 3 from rfl]; omega)).mono ?_
 rintro e z1 ⟨v1, rfl, hO1, hK1⟩
 have HS1 : Hid (SB w0 w W B v v1 (bs ++ [76, 69, 78, 32]) (cellsE d 7) z1) := HS0.out.step HWE.out HNV.out hwB hO1 hK1
 clear hO1 hK1
 go_wp2_with fail
 refine hK.out _ _ ?_ (fun hHeld => ?_)
 · exact ⟨HS1.out.bl, HS1.out.bx⟩
 clear hK K
 try simp only [Act.put, sA, zA, cA]
 refine rdA 6 fun K hK => ?_
 go_simp
 refine ((HKD.out 0 (by have h := HN.out; omega)) v1 _ _ HS1.out.own HS1.out.bl HS1.out.lo (by have h := HLN.out; have h0 := HKL.out 0 (by have h := HN.out; omega); simp only [lA, lC, lN]; omega)).mono ?_
 rintro e z2 ⟨v2, rfl, hO2, hK2⟩
 have HS2 := hid (HS1.out.step HWE.out HNV.out hwB hO2 hK2)
 clear hO2 hK2
 go_wp2_with fail
 refine hK.out _ _ ?_ (fun hHeld => ?_)
 · exact ⟨HS2.out.bl, HS2.out.bx⟩
 clear hK K
 refine tkB 7 4 ?_
 refine wpAnyH_done (by kernel_rfl) ?_ _
 clear hHeld HF HS0 HS1 HS
 go_wp2_with fail
 go_ret
 exact ⟨_, rfl, HT.out ▸ HS2.out.own, Kp.pre HBW.out HS2.out.kp⟩
/- UtO -/
theorem l4sayExprK {lim : Int} (e : ET) : ∀ (deep : Int) (B : Nat) (w0 : World), e.lies 0 w0 → eOk lim e deep → w0.heap.size ≤ B → SayE 98 w0 B e := by
 induction e with
 | nil => exact fun _ _ _ h => False.elim h
 | mk d kid ih =>
   intro deep B w0 hl hok hwB v bs w HO hw hB hn
   have IH := fun i (hi : i < d.n) => ih i (deep + 1) B w0 (hl.2.2.2.2.2 i hi) (hok.2.2 i hi) hwB
   have hk := hok.2.1.1
   unfold kOk at hk
   rcases (by omega : d.k = 0 ∨ d.k = 1 ∨ d.k = 2 ∨ d.k = 3 ∨ d.k = 4 ∨ d.k = 5 ∨ d.k = 6 ∨ d.k = 7) with h | h | h | h | h | h | h | h
   · exact sayExpr_0 d kid h lim deep v B bs w0 w hl hok HO hw hwB hB hn IH
   · exact sayExpr_1 d kid h lim deep v B bs w0 w hl hok HO hw hwB hB hn IH
   · exact sayExpr_2 d kid h lim deep v B bs w0 w hl hok HO hw hwB hB hn IH
   · exact sayExpr_3 d kid h lim deep v B bs w0 w hl hok HO hw hwB hB hn IH
   · exact sayExpr_4 d kid h lim deep v B bs w0 w hl hok HO hw hwB hB hn IH
   · exact sayExpr_5 d kid h lim deep v B bs w0 w hl hok HO hw hwB hB hn IH
   · exact sayExpr_6 d kid h lim deep v B bs w0 w hl hok HO hw hwB hB hn IH
   exact sayExpr_7 d kid h lim deep v B bs w0 w hl hok HO hw hwB hB hn IH
/- UtP -/
def uTx : UT → List Int
 | .nil => []
 | .mk d ka kb => if d.k = 0 then itTx d.p.s ++ (itTx d.p.p ++ (itTx d.p.o ++ [46, 32])) else if d.k = 1 then [79, 80, 84, 73, 79, 78, 65, 76, 32] ++ ([123, 32] ++ (catN d.an (fun i => uTx (ka i)) ++ [125, 32]))
   else if d.k = 2 then [85, 78, 73, 79, 78, 32] ++ (([123, 32] ++ (catN d.an (fun i => uTx (ka i)) ++ [125, 32])) ++ ([123, 32] ++ (catN d.bn (fun i => uTx (kb i)) ++ [125, 32])))
   else if d.k = 3 then [77, 73, 78, 85, 83, 32] ++ ([123, 32] ++ (catN d.an (fun i => uTx (ka i)) ++ [125, 32])) else if d.k = 4 then [70, 73, 76, 84, 69, 82, 32] ++ eTx d.e else if d.k = 5 then [66, 73, 78, 68, 32] ++ (eTx d.e ++ vTx d.v.b)
   else [86, 65, 76, 85, 69, 83, 32] ++ (vTx d.v.b ++ ([123, 32] ++ (catN d.tb.length (fun i => tTx (tbG d.tb i)) ++ [125, 32])))
def gTx (n : Nat) (f : Nat → UT) : List Int := [123, 32] ++ (catN n (fun i => uTx (f i)) ++ [125, 32])
theorem uTx_at {e : UT} (h : e ≠ .nil) : uTx e = if e.d.k = 0 then itTx e.d.p.s ++ (itTx e.d.p.p ++ (itTx e.d.p.o ++ [46, 32])) else if e.d.k = 1 then [79, 80, 84, 73, 79, 78, 65, 76, 32] ++ gTx e.d.an e.ka
   else if e.d.k = 2 then [85, 78, 73, 79, 78, 32] ++ (gTx e.d.an e.ka ++ gTx e.d.bn e.kb) else if e.d.k = 3 then [77, 73, 78, 85, 83, 32] ++ gTx e.d.an e.ka else if e.d.k = 4 then [70, 73, 76, 84, 69, 82, 32] ++ eTx e.d.e else if e.d.k = 5 then [66, 73, 78, 68, 32] ++ (eTx e.d.e ++ vTx e.d.v.b)
   else [86, 65, 76, 85, 69, 83, 32] ++ (vTx e.d.v.b ++ ([123, 32] ++ (catN e.d.tb.length (fun i => tTx (tbG e.d.tb i)) ++ [125, 32]))) := by
 cases e with
 | nil => exact absurd rfl h
 | mk d ka kb => rfl
theorem uOk_at {e : UT} {deep : Int} (h : uOk e deep) : e ≠ .nil ∧ deep ≤ 10 ∧ NodeU e.d ∧ (hasX e.d.k → eOk 10 e.d.e (deep + 1)) ∧ (∀ i, i < e.d.an → uOk (e.ka i) (deep + 1)) ∧ ∀ i, i < e.d.bn → uOk (e.kb i) (deep + 1) := by
 cases e with
 | nil => exact False.elim h
 | mk d ka kb => exact ⟨fun h => UT.noConfusion h, h⟩
theorem usz_at {e : UT} (h : e ≠ .nil) : usz e = ownU e.d + (sumN e.d.an (fun i => usz (e.ka i)) + sumN e.d.bn (fun i => usz (e.kb i))) := by
 cases e with
 | nil => exact absurd rfl h
 | mk d ka kb => rfl
theorem itTx_len {x : IB} {m : Int} (h : itOk x m) : (itTx x).length ≤ 65 := by
 unfold itTx
 rcases h with ⟨h1, h2, _⟩ | ⟨h1, h2, _⟩
 · rw [if_neg h1]
   have := vTx_len h2
   omega
 rw [if_pos h1]
 exact tTx_len h2
theorem tbsTx_len {l : List TB} (h : ∀ x ∈ l, x.td.ok = true) (k : Nat) (hk : k ≤ l.length) : (catN k (fun i => tTx (tbG l i))).length ≤ 65 * k := by
 induction k with
 | zero => exact Nat.zero_le _
 | succ k ih =>
   have h1 := ih (by omega)
   have h2 := tbG_at (l := l) (i := k) (by omega)
   have h3 : (tTx (tbG l k)).length ≤ 65 := by rw [h2.1]; exact tTx_len (h _ h2.2)
   show (catN k (fun i => tTx (tbG l i)) ++ tTx (tbG l k)).length ≤ 65 * (k + 1)
   rw [List.length_append]
   omega
theorem uTx_len {e : UT} : ∀ {deep : Int}, uOk e deep → (uTx e).length ≤ 700 * usz e := by
 induction e with
 | nil => exact fun h => False.elim h
 | mk d ka kb ia ib =>
   intro deep h
   obtain ⟨_, hN, hX, hA, hB⟩ := h
   have ha := catN_len (n := d.an) (f := fun i => uTx (ka i)) (c := fun i => usz (ka i)) (m := 700) (fun i hi => ia i (hA i hi))
   have hb := catN_len (n := d.bn) (f := fun i => uTx (kb i)) (c := fun i => usz (kb i)) (m := 700) (fun i hi => ib i (hB i hi))
   have hs : usz (.mk d ka kb) = ownU d + (sumN d.an (fun i => usz (ka i)) + sumN d.bn (fun i => usz (kb i))) := rfl
   unfold ownU at hs
   have hk := hN.k0
   have hk6 := hN.k6
   rw [uTx_at (by intro h; cases h), hs]
   show (if d.k = 0 then itTx d.p.s ++ (itTx d.p.p ++ (itTx d.p.o ++ [46, 32])) else if d.k = 1 then [79, 80, 84, 73, 79, 78, 65, 76, 32] ++ gTx d.an ka
   else if d.k = 2 then [85, 78, 73, 79, 78, 32] ++ (gTx d.an ka ++ gTx d.bn kb) else if d.k = 3 then [77, 73, 78, 85, 83, 32] ++ gTx d.an ka else if d.k = 4 then [70, 73, 76, 84, 69, 82, 32] ++ eTx d.e else if d.k = 5 then [66, 73, 78, 68, 32] ++ (eTx d.e ++ vTx d.v.b)
   else [86, 65, 76, 85, 69, 83, 32] ++ (vTx d.v.b ++ ([123, 32] ++ (catN d.tb.length (fun i => tTx (tbG d.tb i)) ++ [125, 32])))).length ≤ _
   unfold gTx
   rcases (by omega : d.k = 0 ∨ d.k = 1 ∨ d.k = 2 ∨ d.k = 3 ∨ d.k = 4 ∨ d.k = 5 ∨ d.k = 6) with h | h | h | h | h | h | h
   · have hp := hN.p1 h
     have h1 := itTx_len hp.1
     have h2 := itTx_len hp.2.1
     have h3 := itTx_len hp.2.2
     simp only [h]; simp; omega
   · simp only [h]; simp; omega
   · simp only [h]; simp; omega
   · simp only [h]; simp; omega
   · have h1 := eTx_len (hX (.inl h))
     simp only [h]; simp; omega
   · have h1 := eTx_len (hX (.inr h))
     have h2 := vTx_len (hN.v1 (.inl h))
     simp only [h]; simp; omega
   have h1 := tbsTx_len hN.tm d.tb.length (Nat.le_refl _)
   have h2 := vTx_len (hN.v1 (.inr h))
   have h3 := hN.tn
   simp only [h]; simp; omega
theorem Kp.ne2 {v v' : Value} {W wr : World} {b : Nat} (h : Kp v W v' wr) (hW : b < W.heap.size) (hv : v.ownBlock ≠ some b) : v'.ownBlock ≠ some b := fun e => by
 rcases h.blk b e with h1 | h1
 · exact hv h1
 omega
theorem SB.step2 {w0 w W : World} {B : Nat} {v0 v v' : Value} {bs bs' : List Int} {cs : List Value} {W' W'' : World} (h : SB w0 w W B v0 v bs cs W') (hW : w.heap.size < W.heap.size) (hv0 : v0.ownBlock ≠ some w.heap.size) (hwB : w0.heap.size ≤ B) (hO : Own8 W'' B v' bs'.length bs') (hK : Kp v W' v' W'') : SB w0 w W B v0 v' bs' cs W'' :=
 ⟨hO, h.kp.trans hK, hK.box h.bx h.ne, h.bl.trans ((hK.low (fun g hg => (h.own.2 g hg).1) h.lo).mono hwB), Nat.le_trans h.lo hK.size, (h.kp.trans hK).ne2 hW hv0⟩
def SayG (fn : Nat) (w0 : World) (B : Nat) (a : Option Addr) (cap n : Nat) (f : Nat → UT) : Prop := ∀ (v : Value) (bs : List Int) (W : World), Own8 W B v bs.length bs → Bl w0 W → B ≤ W.heap.size → bs.length + 700 * sumN n (fun i => usz (f i)) + 4 ≤ 900000 → Calls Tryz.prog fn #[v, .slice a n cap] W (SayK B v (bs ++ gTx n f) W)
theorem UT.lies.terms {B : Nat} {w : World} {e : UT} (h : e.lies B w) : TRowF B w e.d.ta e.d.tb := by
 cases e with
 | nil => exact False.elim h
 | mk d ka kb => exact h.2.2.2.1
end Go.Proofs.YthljoojcpbignaaGreatDoor
