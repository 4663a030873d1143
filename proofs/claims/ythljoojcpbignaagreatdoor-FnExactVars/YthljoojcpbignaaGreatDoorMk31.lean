import Derived.Test.YthljoojcpbignaaGreatDoorMk30
namespace Go.Proofs.YthljoojcpbignaaGreatDoor
open Go.RowKit Go.Deep
set_option maxHeartbeats 40000000
set_option maxRecDepth 100000
theorem Row8.kp {w w' : World} {B g n cap : Nat} {bs : List Int} {v : Value} (_h : Row8 w' B g n cap bs) (hgr : w.grownBy w' v.ownBlock) (hat : v.ownBlock = some g ∨ g = w.heap.size) : Kp v w (.slice (some ⟨g, 0, none⟩) n cap) w' :=
 ⟨hgr.os, hgr.tape, hgr.output, hgr.size, fun b hb hn => hgr.block b hb (fun e => hn e.symm), fun g' hg' => by
  have : g = g' := by simpa [Value.ownBlock] using hg'
  subst this
  rcases hat with e | e
  · exact .inl e
  exact .inr (by rw [e]; exact nR)⟩
theorem app8k {ops : Array Oper} {rest : List Oper} {o : Oper} {a : Act} {Q : Exit → Act → World → Prop} {w : World} (hgd : o.guard = none) (s x : Operand)
 (ho : o.op = .call { callee := .builtin .append, args := #[s, x], argTypes := #[42, 42] })
 (B : Nat) (v : Value) (n : Nat) (us : List Int) (hs : a.eval s = v) (HO : Hd (Own8 w B v n us))
 (ad : Addr) (m c : Nat) (bs : List Int) (hx : a.eval x = .slice (some ad) m c) (hl : bs.length = m) (HN : Hd (∀ j u, (bs.map (Value.int .u8))[j]? = some u → w.cell? (ad.add j) = some u))
 (hm : 0 < m) (N : Nat) (hN : n + m = N) (zs : List Int) (hz : us ++ bs = zs) (hle : N ≤ 1000000000) (hB : B ≤ w.heap.size)
 (h : ∀ g cap w', Hd (Own8 w' B (.slice (some ⟨g, 0, none⟩) N cap) N zs) → Hd (Kp v w (.slice (some ⟨g, 0, none⟩) N cap) w') → wpList Tryz.prog ops Q rest (a.put o.dst (.slice (some ⟨g, 0, none⟩) N cap)) w') :
 wpList Tryz.prog ops Q (o :: rest) a w :=
 app8 hgd s x ho B v n us hs HO.o.1 ad m c bs hx hl HN hm N hN zs hz hle hB fun g cap w' HR HG HA _ => h g cap w' HR.o.own8 (HR.o.kp HG.o HA.o)
theorem own_str {P : Program} (w : World) (base : Nat) (t u ty e : TypeId) (i : TypeInfo) (ht : P.underlying t = some (.slice e)) (hu : P.underlying u = some .string) (hi : P.info? e = some i) (hz : i.zero = some (.int .u8 0))
 (hsize : i.size = 1) (hby : i.bytes = 1) (v : Value) (n : Nat) (xs : List Value) (hown : w.ownsRow base e 1 v n xs) (s : ByteArray)
 (h63 : n + s.size ≤ maxLen) (hbytes : n + s.size ≤ 140737488355328) (hbase : base ≤ w.heap.size) (hs0 : 0 < s.size) :
 ∃ v' w', (Builtin.append_ #[t, u] ty #[v, .string s]).run P w = .ok v' w' ∧ w'.ownsRow base e 1 v' (n + s.size) (xs ++ Lib.strCells s) ∧ w.grownBy w' v.ownBlock ∧ ∀ g, v'.ownBlock = some g → v.ownBlock = some g ∨ w.heap.size ≤ g := by
 obtain ⟨v', w', hr, h2, h3, _⟩ := Lib.run_append_own_string (P := P) w base t u ty e i ht hu hi hz hsize hby v n xs hown s h63 hbytes hbase
 refine ⟨v', w', hr, h2, h3, fun g hg => ?_⟩
 have h63' : n + s.size ≤ 9223372036854775807 := by unfold maxLen at h63; omega
 rcases hown.2 with ⟨rfl, rfl⟩ | ⟨g0, cap, cur, rfl, hbg, hg0, hnc, hcm, hcs, htake⟩
 · have hr2 := run_append_nil_string (P := P) w t u ty e i (.int .u8 0) ht hu hi hz s (by omega) (by omega) (by rw [hby]; omega)
   rw [hr] at hr2
   simp only [Result.ok.injEq] at hr2
   rw [hr2.1] at hg
   simp only [Value.ownBlock, Option.some.injEq] at hg
   exact .inr (by omega)
 by_cases hroom : n + s.size ≤ cap
 · have hcs' : cur.size = cap := by simpa using hcs
   have hr2 := Lib.run_append_room_string (P := P) w t u ty e i ht hu hi hsize g0 n cap cur hg0 s hroom (by omega)
   rw [hr] at hr2
   simp only [Result.ok.injEq] at hr2
   rw [hr2.1] at hg
   exact .inl hg
 have hxl : xs.length = n := by simpa using hown.1
 have hr2 := Lib.run_append_grow_string (P := P) w t u ty e i (.int .u8 0) ht hu hi hz ⟨g0, 0, none⟩ n cap xs (by rw [hsize]; simpa using hxl) (hown.cells (g := g0) rfl) s (by omega) (by omega) (by rw [hby]; exact growslice_fits (by omega) (by omega))
 rw [hr] at hr2
 simp only [Result.ok.injEq] at hr2
 rw [hr2.1] at hg
 simp only [Value.ownBlock, Option.some.injEq] at hg
 exact .inr (by omega)
theorem app8sk {ops : Array Oper} {rest : List Oper} {o : Oper} {a : Act} {Q : Exit → Act → World → Prop} {w : World} (hgd : o.guard = none) (s x : Operand)
 (ho : o.op = .call { callee := .builtin .append, args := #[s, x], argTypes := #[42, 9] })
 (B : Nat) (v : Value) (n : Nat) (us : List Int) (hs : a.eval s = v) (HO : Hd (Own8 w B v n us))
 (st : ByteArray) (hx : a.eval x = .string st) (hm : 0 < st.size) (N : Nat) (hN : n + st.size = N) (zs : List Int) (hz : us ++ numsOf st = zs) (hle : N ≤ 1000000000) (hB : B ≤ w.heap.size)
 (h : ∀ g cap w', Hd (Own8 w' B (.slice (some ⟨g, 0, none⟩) N cap) N zs) → Hd (Kp v w (.slice (some ⟨g, 0, none⟩) N cap) w') → wpList Tryz.prog ops Q rest (a.put o.dst (.slice (some ⟨g, 0, none⟩) N cap)) w') :
 wpList Tryz.prog ops Q (o :: rest) a w := by
 obtain ⟨i0, hi0, hzz⟩ := Option.map_eq_some_iff.1 Tryz.info5
 simp only [Prod.mk.injEq] at hzz
 obtain ⟨hi2, hi1, hi3⟩ := hzz
 subst hN hz
 refine wpList_plain hgd fun K hK => ?_
 obtain ⟨v', w', hr, hown, hgr, hat⟩ := own_str (P := Tryz.prog) w B 42 9 o.type 5 i0 Tryz.underlying42 Tryz.underlying9 hi0 hi2 hi1 hi3 v n (us.map (Value.int .u8)) HO.o.1 st (by unfold maxLen; omega) (by omega) hB hm
 obtain ⟨g, cap, rfl, hBg, hlt⟩ := hown.form (by omega)
 have es : Lib.strCells st = (numsOf st).map (Value.int .u8) := by simp [Lib.strCells, numsOf]
 rw [es] at hown
 unfold Oper.wp execOp
 simp only [ho, resolve, invoke, builtin, Sem.run_bind, Sem.run_pure, Result.andThen_ok, List.map_toArray, List.map_cons, List.map_nil, hs, hx, hr]
 exact hK _ _ (h g cap w' (Row8.grown hown rfl hlt).own8 ⟨hgr.os, hgr.tape, hgr.output, hgr.size, fun b hb hn => hgr.block b hb (fun e => hn e.symm), hat⟩)
def SayK (B : Nat) (v : Value) (bs : List Int) (w : World) (e : Ending) (w' : World) : Prop := ∃ v', e = .returned v' ∧ Own8 w' B v' bs.length bs ∧ Kp v w v' w'
structure SayS (w0 w : World) (B : Nat) (v0 v : Value) (bs : List Int) (W : World) : Prop where
 own : Own8 W B v bs.length bs
 kp : Kp v0 w v W
 bl : Bl w0 W
 lo : B ≤ W.heap.size
theorem Own8.to {w : World} {B n m : Nat} {v : Value} {bs cs : List Int} (h : Own8 w B v n bs) (e : bs = cs) (em : n = m) : Own8 w B v m cs := by subst e em; exact h
theorem l4wordK (v : Value) (B : Nat) (bs : List Int) (st : ByteArray) (w : World) (HO : Own8 w B v bs.length bs) (hB : B ≤ w.heap.size) (hl : 0 < st.size) (hn : bs.length + st.size + 1 ≤ 1000000) :
 Calls Tryz.prog 67 #[v, .string st] w (SayK B v (bs ++ (numsOf st ++ [32])) w) := by
 obtain ⟨n, hnn⟩ : ∃ n, n = bs.length := ⟨_, rfl⟩
 rw [← hnn] at HO hn
 have HO1 := iH HO
 have HNN := iH hnn
 clear HO hnn
 go_in
 go_wp2_with (first
  | (refine app8sk rfl (.tmp 5) (.tmp 6) rfl B v n bs rfl HO1 st rfl hl (n + st.size) rfl (bs ++ numsOf st) rfl (by omega) hB ?_; intro g4 c4 w4 HR4 HK4; have HO4 := hidU (HR4.o.below (bl_a (.cells #[.int .u8 32] 5))); have HN4 := hidU (one_news w4 32); have hB4 : B ≤ (w4.alloc (.cells #[.int .u8 32] 5)).heap.size := Nat.le_trans hB (Nat.le_trans HK4.o.size (by simp)); clear HO1)
  | (refine app8k rfl (.tmp 7) (.tmp 8) rfl B (.slice (some ⟨g4, 0, none⟩) (n + st.size) c4) (n + st.size) (bs ++ numsOf st) rfl HO4 ⟨w4.heap.size, 0, none⟩ 1 1 [32] rfl rfl HN4 (by omega) (n + st.size + 1) rfl (bs ++ numsOf st ++ [32]) rfl (by omega) hB4 ?_; intro g5 c5 w5 HR5 HK5; clear HO4 HN4 hB4))
 go_ret
 refine ⟨_, rfl, HR5.o.to (by simp) ?_, HK4.o.trans (Kp.pre (bl_a _) HK5.o)⟩
 have h := HR5.o.len
 simp at h ⊢
 omega
theorem l4sayVarK (v : Value) (B : Nat) (bs : List Int) (x : SL) (w0 w : World) (HO : Own8 w B v bs.length bs) (hx : BsF 0 w0 x) (hw : Bl w0 w) (h0 : w0.heap.size ≤ B) (hB : B ≤ w.heap.size) (hl : x.b ≠ []) (hn : bs.length + x.len + 2 ≤ 1000000) :
 Calls Tryz.prog 68 #[v, .slice x.a x.len x.cap] w (SayK B v (bs ++ 63 :: (x.b ++ [32])) w) := by
 obtain ⟨hlen, hsm, _, hm⟩ := hx.1
 have hl0 : 0 < x.len := by
  rcases Nat.eq_zero_or_pos x.len with h | h
  · exact absurd (List.eq_nil_of_length_eq_zero (by rw [hlen]; exact h)) hl
  exact h
 obtain ⟨b, off, ha, hlt, _⟩ := hm.resolve_left (by omega)
 obtain ⟨n, hnn⟩ : ∃ n, n = bs.length := ⟨_, rfl⟩
 rw [← hnn] at HO hn
 have HX := iH (fun W (hb : Bl w0 W) => bs_news (by rw [← ha]; exact hx.1.below hb))
 have HL := iH hlen
 have HV0 := iH (fun g (hg : v.ownBlock = some g) => (HO.2 g hg).1)
 have HO1 : Hd (Own8 (w.alloc (.cells #[.int .u8 63] 5)) B v n bs) := HO.below (bl_a _)
 have HN1 : Hd (∀ j u, (([63] : List Int).map (Value.int .u8))[j]? = some u → (w.alloc (.cells #[.int .u8 63] 5)).cell? ((⟨w.heap.size, 0, none⟩ : Addr).add j) = some u) := one_news w 63
 have HW := iH hw
 have hB1 : B ≤ (w.alloc (.cells #[.int .u8 63] 5)).heap.size := by simp; omega
 have HNN := iH hnn
 rw [ha]
 clear hx hw hlen hsm hm ha HO hnn hl
 go_in
 go_wp2_with (first
  | (refine app8k rfl (.tmp 5) (.tmp 6) rfl B v n bs rfl HO1 ⟨w.heap.size, 0, none⟩ 1 1 [63] rfl rfl HN1 (by omega) (n + 1) rfl (bs ++ [63]) rfl (by omega) hB1 ?_; intro g3 c3 w3 HR3 HK3x; have HK3 : Hd (Kp v w (.slice (some ⟨g3, 0, none⟩) (n + 1) c3) w3) := Kp.pre (bl_a _) HK3x.o; have HN3 := hidU (HX.o w3 (HW.o.trans ((HK3.o.low HV0.o hB).mono h0))); have hB3 : B ≤ w3.heap.size := Nat.le_trans hB HK3.o.size; clear HK3x HO1 HN1 hB1)
  | (refine app8k rfl (.tmp 7) (.tmp 8) rfl B (.slice (some ⟨g3, 0, none⟩) (n + 1) c3) (n + 1) (bs ++ [63]) rfl HR3 ⟨b, off, none⟩ x.len x.cap x.b rfl HL.o HN3 (by omega) (n + 1 + x.len) rfl (bs ++ [63] ++ x.b) rfl (by omega) hB3 ?_; intro g4 c4 w4 HR4 HK4x; have HK4 : Hd (Kp v w (.slice (some ⟨g4, 0, none⟩) (n + 1 + x.len) c4) w4) := HK3.o.trans HK4x.o; have HO4 := hidU (HR4.o.below (bl_a (.cells #[.int .u8 32] 5))); have HN4 := hidU (one_news w4 32); have hB4 : B ≤ (w4.alloc (.cells #[.int .u8 32] 5)).heap.size := Nat.le_trans hB (Nat.le_trans HK4.o.size (by simp)); clear HK4x HN3 hB3)
  | (refine app8k rfl (.tmp 9) (.tmp 10) rfl B (.slice (some ⟨g4, 0, none⟩) (n + 1 + x.len) c4) (n + 1 + x.len) (bs ++ [63] ++ x.b) rfl HO4 ⟨w4.heap.size, 0, none⟩ 1 1 [32] rfl rfl HN4 (by omega) (n + 1 + x.len + 1) rfl (bs ++ [63] ++ x.b ++ [32]) rfl (by omega) hB4 ?_; intro g5 c5 w5 HR5 HK5x; have HK5 : Hd (Kp v w (.slice (some ⟨g5, 0, none⟩) (n + 1 + x.len + 1) c5) w5) := HK4.o.trans (Kp.pre (bl_a _) HK5x.o); clear HK5x HO4 HN4 hB4))
 go_ret
 refine ⟨_, rfl, HR5.o.to (by simp) ?_, HK5.o⟩
 have h := HR5.o.len
 simp at h ⊢
 omega
def tTx (t : TB) : List Int := t.t.show t.b ++ [32]
def vTx (b : List Int) : List Int := 63 :: (b ++ [32])
def itTx (x : IB) : List Int := if x.v.b = [] then tTx x.t else vTx x.v.b
theorem l4sayItemK (v : Value) (B : Nat) (bs : List Int) (x : IB) (m : Int) (w0 w : World) (HO : Own8 w B v bs.length bs) (hx : x.lies 0 w0) (hok : itOk x m) (hw : Bl w0 w) (h0 : w0.heap.size ≤ B) (hB : B ≤ w.heap.size) (hn : bs.length ≤ 900000) :
 Calls Tryz.prog 97 #[v, .agg x.ar] w (SayK B v (bs ++ itTx x) w) := by
 try unfold IB.ar
 have hlv := nil_len hx.1.1.1
 have HO1 := iH (fun W (h : Bl w W) => HO.below h)
 rcases hok with ⟨h1, h2, _⟩ | ⟨h1, h2, _⟩
 · have hle : x.v.len ≤ 12 := (by have h := (name_len h2).2; have h3 := hx.1.1.1; omega)
   have HT : Hd (itTx x = 63 :: (x.v.b ++ [32])) := (show itTx x = _ by unfold itTx; rw [if_neg h1]; rfl)
   have hvz : (0 : Int) < (x.v.len : Int) := by have h : ¬ x.v.len = 0 := fun h => h1 (hlv.2 h); omega
   have HS := iH (fun o => l4sayVarK v B bs x.v w0 (w.alloc o) (HO1.o _ (bl_a o)) hx.1 (hw.trans ((bl_a o).mono hw.size)) h0 (Nat.le_trans hB (bl_a (w := w) o).size) h1 (by omega))
   clear hx hlv h1 h2 hw HO
   go_in
   go_wp2_with fail
   refine (HS.o _).mono ?_
   rintro e w1 ⟨v1, rfl, hO1, hK1⟩
   have HR : Hd (Own8 w1 B v1 (bs ++ itTx x).length (bs ++ itTx x)) := (show Own8 _ _ _ _ _ by rw [HT.o]; exact hO1)
   have HK := iH (Kp.pre (bl_a _) hK1)
   clear hO1 hK1
   go_wp2
   go_ret
   exact ⟨_, rfl, HR.o, HK.o⟩
 have hvz : ¬ (0 : Int) < (x.v.len : Int) := by have h := hlv.1 h1; omega
 have HT : Hd (itTx x = x.t.t.show x.t.b ++ [32]) := (show itTx x = _ by unfold itTx; rw [if_pos h1]; rfl)
 have HSL : Hd (1 ≤ (x.t.t.show x.t.b).length ∧ (x.t.t.show x.t.b).length ≤ 64) := Tm.show_len h2
 have SH : ∀ o, Calls Tryz.prog 99 #[.agg #[.int .i64 x.t.t.k, .slice x.t.t.a x.t.t.len x.t.t.cap, .int .i64 x.t.t.n, .int .i64 x.t.t.s]] (w.alloc o) fun e w' => DigRes (w.alloc o) (x.t.t.show x.t.b) e w' := fun o => l1show_any x.t.t.k x.t.t.n x.t.t.s x.t.t.a x.t.t.len x.t.t.cap x.t.b (w.alloc o) ((hx.2.1.1.below hw).below (bl_a o)) h2
 clear hx hlv h1 h2 hw HO
 generalize x.t.t.show x.t.b = L at *
 go_in
 go_wp2_with fail
 refine (SH _).mono ?_
 rintro e w1 ⟨g1, c1, rfl, hR1, hb1⟩
 have HB1 := iH (bl_trans (bl_a _) hb1)
 have HOw := hidU (HO1.o w1 HB1.o)
 have HN1 := hidU hR1.news
 have hBw := Nat.le_trans hB HB1.o.size
 obtain ⟨n, hnn⟩ : ∃ n, n = bs.length := ⟨_, rfl⟩
 obtain ⟨q, hq⟩ : ∃ q, q = L.length := ⟨_, rfl⟩
 have hq1 : 0 < q := by have h := HSL.o.1; omega
 have hq2 : q ≤ 64 := by have h := HSL.o.2; omega
 have HQ := iH hq.symm
 have HNN := iH hnn
 rw [← hnn] at HOw hn
 rw [← hq]
 clear hR1 hb1 hq hnn SH HO1
 go_wp2_with (first
  | (refine app8k rfl (.tmp 13) (.tmp 16) rfl B v n bs rfl HOw ⟨g1, 0, none⟩ q c1 L rfl HQ.o HN1 hq1 (n + q) rfl (bs ++ L) rfl (by omega) hBw ?_; intro g4 c4 w4 HR4 HK4; have HO4 := hidU (HR4.o.below (bl_a (.cells #[.int .u8 32] 5))); have HN4 := hidU (one_news w4 32); have hB4 : B ≤ (w4.alloc (.cells #[.int .u8 32] 5)).heap.size := Nat.le_trans hBw (Nat.le_trans HK4.o.size (by simp)); clear HN1 HOw hBw)
  | (refine app8k rfl (.tmp 17) (.tmp 18) rfl B (.slice (some ⟨g4, 0, none⟩) (n + q) c4) (n + q) (bs ++ L) rfl HO4 ⟨w4.heap.size, 0, none⟩ 1 1 [32] rfl rfl HN4 (by omega) (n + q + 1) rfl (bs ++ L ++ [32]) rfl (by omega) hB4 ?_; intro g5 c5 w5 HR5 HK5; clear HO4 HN4 hB4))
 go_ret
 refine ⟨_, rfl, HR5.o.to (by rw [HT.o]; simp) ?_, Kp.pre HB1.o (HK4.o.trans (Kp.pre (bl_a _) HK5.o))⟩
 have h := HR5.o.len
 rw [HT.o]
 simp at h ⊢
 omega
def catN : Nat → (Nat → List Int) → List Int
 | 0, _ => []
 | n + 1, f => catN n f ++ f n
theorem catN_congr {n : Nat} {f g : Nat → List Int} (h : ∀ i, i < n → f i = g i) : catN n f = catN n g := by
 induction n with
 | zero => rfl
 | succ n ih =>
  show catN n f ++ f n = catN n g ++ g n
  rw [ih (fun i hi => h i (by omega)), h n (by omega)]
theorem catN_len {n : Nat} {f : Nat → List Int} {c : Nat → Nat} {m : Nat} (h : ∀ i, i < n → (f i).length ≤ m * c i) : (catN n f).length ≤ m * sumN n c := by
 induction n with
 | zero => exact nZ
 | succ n ih =>
  have h1 := ih (fun i hi => h i (by omega))
  have h2 := h n (by omega)
  show (catN n f ++ f n).length ≤ m * (sumN n c + c n)
  rw [List.length_append, Nat.mul_add]
  omega
def opB (n : Int) : Int := if n = 0 then 43 else if n = 1 then 45 else if n = 2 then 42 else if n = 3 then 47 else if n = 4 then 60 else if n = 5 then 61 else if n = 6 then 38 else 124
def eTx : ET → List Int
 | .nil => []
 | .mk d kid => if d.k = 0 then vTx d.v.b else if d.k = 1 then tTx d.t else if d.k = 2 then [40, 32] ++ (eTx (kid 0) ++ ([opB d.op, 32] ++ (eTx (kid 1) ++ [41, 32]))) else if d.k = 3 then [78, 79, 84, 32] ++ eTx (kid 0)
  else if d.k = 4 then [66, 79, 85, 78, 68, 32] ++ vTx d.v.b else if d.k = 5 then [73, 70, 32] ++ (eTx (kid 0) ++ (eTx (kid 1) ++ eTx (kid 2))) else if d.k = 7 then [76, 69, 78, 32] ++ eTx (kid 0) else [67, 79, 65, 76, 32, 123, 32] ++ (catN d.n (fun i => eTx (kid i)) ++ [125, 32])
theorem eTx_mk (d : EN) (kid : Nat → ET) : eTx (.mk d kid) = if d.k = 0 then vTx d.v.b else if d.k = 1 then tTx d.t else if d.k = 2 then [40, 32] ++ (eTx (kid 0) ++ ([opB d.op, 32] ++ (eTx (kid 1) ++ [41, 32]))) else if d.k = 3 then [78, 79, 84, 32] ++ eTx (kid 0)
 else if d.k = 4 then [66, 79, 85, 78, 68, 32] ++ vTx d.v.b else if d.k = 5 then [73, 70, 32] ++ (eTx (kid 0) ++ (eTx (kid 1) ++ eTx (kid 2))) else if d.k = 7 then [76, 69, 78, 32] ++ eTx (kid 0) else [67, 79, 65, 76, 32, 123, 32] ++ (catN d.n (fun i => eTx (kid i)) ++ [125, 32]) := rfl
theorem vTx_len {b : List Int} (h : nameOk b = true) : (vTx b).length ≤ 14 := by
 have := (name_len h).2
 simp [vTx]
 omega
theorem tTx_len {t : TB} (h : t.td.ok = true) : (tTx t).length ≤ 65 := by
 have := (Tm.show_len (t := t.t) (b := t.b) h).2
 simp [tTx]
 omega
theorem eTx_len {lim : Int} {e : ET} : ∀ {deep : Int}, eOk lim e deep → (eTx e).length ≤ 80 * esz e := by
 induction e with
 | nil => exact fun h => False.elim h
 | mk d kid ih =>
  intro deep h
  obtain ⟨_, ⟨hk, hv, _, ht, _⟩, hkid⟩ := h
  have hi := fun i (hi : i < d.n) => ih i (hkid i hi)
  show (eTx (.mk d kid)).length ≤ 80 * (1 + sumN d.n (fun i => esz (kid i)))
  unfold kOk at hk
  unfold eTx
  rcases hk with ⟨hk, hn⟩ | ⟨hk, hn⟩ | ⟨hk, hn⟩ | ⟨hk, hn⟩ | ⟨hk, hn1, hn2⟩
  · rcases hk with hk | hk | hk
    · have h1 := vTx_len (hv (.inl hk)); simp only [hk]; simp; omega
    · have h1 := tTx_len (ht hk); simp only [hk]; simp; omega
    have h1 := vTx_len (hv (.inr hk)); simp only [hk]; simp; omega
  · have h1 := hi 0 (by omega)
    have h2 : sumN 1 (fun i => esz (kid i)) = esz (kid 0) := by simp [sumN]
    rcases hk with hk | hk <;> simp only [hk, hn, h2] <;> simp <;> omega
  · have h1 := hi 0 (by omega)
    have h3 := hi 1 (by omega)
    have h2 : sumN 2 (fun i => esz (kid i)) = esz (kid 0) + esz (kid 1) := by simp [sumN]
    simp only [hk, hn, h2]; simp; omega
  · have h1 := hi 0 (by omega)
    have h3 := hi 1 (by omega)
    have h4 := hi 2 (by omega)
    have h2 : sumN 3 (fun i => esz (kid i)) = esz (kid 0) + esz (kid 1) + esz (kid 2) := by simp [sumN]
    simp only [hk, hn, h2]; simp; omega
  have h1 := catN_len (f := fun i => eTx (kid i)) (c := fun i => esz (kid i)) (m := 80) hi
  simp only [hk]; simp; omega
structure SB (w0 w W : World) (B : Nat) (v0 v : Value) (bs : List Int) (cs : List Value) (W' : World) : Prop where
 own : Own8 W' B v bs.length bs
 kp : Kp v0 W v W'
 bx : Box W' w.heap.size cs
 bl : Bl w0 W'
 lo : B ≤ W'.heap.size
 ne : v.ownBlock ≠ some w.heap.size
theorem SB.step {w0 w W : World} {B : Nat} {v0 v v' : Value} {bs bs' : List Int} {cs : List Value} {W' W'' : World} {o : Obj} (h : SB w0 w W B v0 v bs cs W') (hW : W = w.alloc o) (hv0 : v0.ownBlock ≠ some w.heap.size) (hwB : w0.heap.size ≤ B) (hO : Own8 W'' B v' bs'.length bs') (hK : Kp v W' v' W'') : SB w0 w W B v0 v' bs' cs W'' :=
 ⟨hO, h.kp.trans hK, hK.box h.bx h.ne, h.bl.trans ((hK.low (fun g hg => (h.own.2 g hg).1) h.lo).mono hwB), Nat.le_trans h.lo hK.size, (h.kp.trans hK).ne hW hv0⟩
theorem SB.below {w0 w W : World} {B : Nat} {v0 v : Value} {bs : List Int} {cs : List Value} {W' W'' : World} (h : SB w0 w W B v0 v bs cs W') (hb : Below W'.heap.size W' W'') : SB w0 w W B v0 v bs cs W'' :=
 ⟨h.own.below hb, h.kp.trans (Kp.of_below hb), h.bx.below hb, h.bl.trans (hb.mono h.bl.size), Nat.le_trans h.lo hb.size, h.ne⟩
theorem Own8.off1 {w : World} {B n : Nat} {v : Value} {bs : List Int} (h : Own8 w B v n bs) : v.ownBlock ≠ some w.heap.size := fun e => by
 have := (h.2 _ e).2
 omega
def SayE (fn : Nat) (w0 : World) (B : Nat) (e : ET) : Prop := ∀ (v : Value) (bs : List Int) (W : World), Own8 W B v bs.length bs → Bl w0 W → B ≤ W.heap.size → bs.length + 80 * esz e ≤ 900000 → Calls Tryz.prog fn #[v, .agg #[.int .i64 e.d.k, .int .i64 e.d.op, .slice e.d.v.a e.d.v.len e.d.v.cap, .int .i64 e.d.t.t.k, .slice e.d.t.t.a e.d.t.t.len e.d.t.t.cap, .int .i64 e.d.t.t.n, .int .i64 e.d.t.t.s, .slice e.d.ka e.d.n e.d.kc]] W (SayK B v (bs ++ eTx e) W)
def cellsE (d : EN) (k : Int) : List Value := [.int .i64 k, .int .i64 d.op, .slice d.v.a d.v.len d.v.cap, .int .i64 d.t.t.k, .slice d.t.t.a d.t.t.len d.t.t.cap, .int .i64 d.t.t.n, .int .i64 d.t.t.s, .slice d.ka d.n d.kc]
theorem l4op_any (n : Int) (w : World) (h0 : 0 ≤ n) (h1 : n ≤ 7) : Calls Tryz.prog 134 #[.int .i64 n] w fun e w' => ∃ st : ByteArray, e = .returned (.string st) ∧ numsOf st = [opB n] ∧ st.size = 1 ∧ Bl w w' := by
 rcases (by omega : n = 0 ∨ n = 1 ∨ n = 2 ∨ n = 3 ∨ n = 4 ∨ n = 5 ∨ n = 6 ∨ n = 7) with rfl | rfl | rfl | rfl | rfl | rfl | rfl | rfl
 all_goals
  go_in
  go_wp2
  go_ret
  exact ⟨_, rfl, rfl, rfl, bl_a _⟩
theorem sayExpr_0 (d : EN) (kid : Nat → ET) (hkv : d.k = 0) (lim deep : Int) (v : Value) (B : Nat) (bs : List Int) (w0 w : World) (hl : (ET.mk d kid).lies 0 w0) (hok : eOk lim (.mk d kid) deep) (HO : Own8 w B v bs.length bs) (hw : Bl w0 w) (hwB : w0.heap.size ≤ B) (hB : B ≤ w.heap.size) (hn : bs.length + 80 * esz (.mk d kid) ≤ 900000)
 (_IH : ∀ i, i < d.n → SayE 98 w0 B (kid i)) :
 Calls Tryz.prog 98 #[v, .agg d.ar] w (SayK B v (bs ++ eTx (.mk d kid)) w) := by
 try unfold EN.ar
 obtain ⟨hv, ht, hf, hn2, hR, hk⟩ := hl
 obtain ⟨hdp, ⟨hko, hvo, _, hto, _, hop, _⟩, hkid⟩ := hok
 unfold kOk at hko
 rw [hkv] at hko
 obtain ⟨W, hW⟩ : ∃ W, W = w.alloc (.cells (d.ca 0) 100) := ⟨_, rfl⟩
 have hbW : Bl w W := by rw [hW]; exact bl_a _
 have HWE := iH hW
 have HNV := iH HO.off1
 have HBW := iH hbW
 have HS : Hd (SB w0 w W B v v bs (cellsE d 0) W) := ⟨HO.below hbW, Kp.of_below brf, (show Box _ _ _ by rw [hW]; exact Box.new w (d.ca 0) 100 _), hw.trans (hbW.mono hw.size), Nat.le_trans hB hbW.size, HO.off1⟩
 have hnm := hvo (.inl hkv)
 have HVX : Hd (BsF 0 w0 d.v ∧ d.v.b ≠ [] ∧ d.v.len ≤ 12) := ⟨hv, name_pos hnm, (by have h := (name_len hnm).2; have h2 := hv.1.1; omega)⟩
 have HLN : Hd (bs.length + 80 ≤ 900000) := (show _ ≤ _ by have h : esz (.mk d kid) = 1 + sumN d.n _ := rfl; omega)
 have HT : Hd (bs ++ 63 :: (d.v.b ++ [32]) = bs ++ eTx (.mk d kid)) := (show _ = _ by rw [eTx_mk, hkv]; simp [vTx])
 rw [hkv]
 clear HO hw hB hbW hR hv ht hf hk hko hvo hto hop hdp hkid hkv hn2 hnm
 go_in
 go_upto_region 1 with fail
 rw [← hW]
 clear hW
 have x0 := HS.o.bx.2 0 _ rfl
 have x2 := HS.o.bx.2 2 _ rfl
 have HS0 := HS
 go_wp2_with fail
 refine (l4sayVarK v B bs d.v w0 _ HS.o.own HVX.o.1 HS.o.bl hwB HS.o.lo HVX.o.2.1 (by have h := HLN.o; have h2 := HVX.o.2.2; omega)).mono ?_
 rintro e z1 ⟨v1, rfl, hO1, hK1⟩
 have HS1 := iH (HS0.o.step HWE.o HNV.o hwB hO1 hK1)
 clear hO1 hK1
 clear HS HS0 x0 x2
 go_wp2
 go_ret
 exact ⟨_, rfl, HT.o ▸ HS1.o.own, Kp.pre HBW.o HS1.o.kp⟩
theorem sayExpr_1 (d : EN) (kid : Nat → ET) (hkv : d.k = 1) (lim deep : Int) (v : Value) (B : Nat) (bs : List Int) (w0 w : World) (hl : (ET.mk d kid).lies 0 w0) (hok : eOk lim (.mk d kid) deep) (HO : Own8 w B v bs.length bs) (hw : Bl w0 w) (_hwB : w0.heap.size ≤ B) (hB : B ≤ w.heap.size) (hn : bs.length + 80 * esz (.mk d kid) ≤ 900000)
 (_IH : ∀ i, i < d.n → SayE 98 w0 B (kid i)) :
 Calls Tryz.prog 98 #[v, .agg d.ar] w (SayK B v (bs ++ eTx (.mk d kid)) w) := by
 try unfold EN.ar
 obtain ⟨hv, ht, hf, hn2, hR, hk⟩ := hl
 obtain ⟨hdp, ⟨hko, hvo, _, hto, _, hop, _⟩, hkid⟩ := hok
 unfold kOk at hko
 rw [hkv] at hko
 obtain ⟨W, hW⟩ : ∃ W, W = w.alloc (.cells (d.ca 1) 100) := ⟨_, rfl⟩
 have hbW : Bl w W := by rw [hW]; exact bl_a _
 have HWE := iH hW
 have HNV := iH HO.off1
 have HBW := iH hbW
 have HS : Hd (SB w0 w W B v v bs (cellsE d 1) W) := ⟨HO.below hbW, Kp.of_below brf, (show Box _ _ _ by rw [hW]; exact Box.new w (d.ca 1) 100 _), hw.trans (hbW.mono hw.size), Nat.le_trans hB hbW.size, HO.off1⟩
 have htk := hto hkv
 have HLN : Hd (bs.length + 80 ≤ 900000) := (show _ ≤ _ by have h : esz (.mk d kid) = 1 + sumN d.n _ := rfl; omega)
 have HT : Hd (bs ++ d.t.t.show d.t.b ++ [32] = bs ++ eTx (.mk d kid)) := (show _ = _ by rw [eTx_mk, hkv]; simp [tTx])
 have HSL : Hd (1 ≤ (d.t.t.show d.t.b).length ∧ (d.t.t.show d.t.b).length ≤ 64) := Tm.show_len htk
 have SH := hidU (l1show_any d.t.t.k d.t.t.n d.t.t.s d.t.t.a d.t.t.len d.t.t.cap d.t.b W (ht.1.below HS.o.bl) htk)
 rw [hkv]
 clear HO hw hB hbW hR hv ht hf hk hko hvo hto hop hdp hkid hkv hn2 htk
 go_in
 go_upto_region 1 with fail
 rw [← hW]
 clear hW
 have x0 := HS.o.bx.2 0 _ rfl
 have x3 := HS.o.bx.2 3 _ rfl
 have x4 := HS.o.bx.2 4 _ rfl
 have x5 := HS.o.bx.2 5 _ rfl
 have x6 := HS.o.bx.2 6 _ rfl
 go_wp2_with fail
 refine SH.o.mono ?_
 rintro e w1 ⟨g1, c1, rfl, hR1, hb1⟩
 have HS1 := iH (HS.o.below hb1)
 have HOw := hidU HS1.o.own
 have HN1 := hidU (show ∀ j u, ((Tm.show d.t.t d.t.b).map (Value.int .u8))[j]? = some u → w1.cell? ((⟨g1, 0, none⟩ : Addr).add j) = some u from hR1.news)
 have hBw := HS1.o.lo
 have HKW := iH (Kp.pre HBW.o HS1.o.kp)
 obtain ⟨n, hnn⟩ : ∃ n, n = bs.length := ⟨_, rfl⟩
 have hn9 : n + 80 ≤ 900000 := by have h := HLN.o; omega
 obtain ⟨L, hL⟩ : ∃ L, L = Tm.show d.t.t d.t.b := ⟨_, rfl⟩
 have e9 : showL d.t.t.k d.t.t.n d.t.t.s d.t.b = L := hL.symm
 rw [e9]
 rw [← hL] at HN1 HSL HT
 obtain ⟨q, hq⟩ : ∃ q, q = L.length := ⟨_, rfl⟩
 have hq1 : 0 < q := by have h := HSL.o.1; omega
 have hq2 : q ≤ 64 := by have h := HSL.o.2; omega
 have HQ := iH hq.symm
 have HNN := iH hnn
 rw [← hnn] at HOw
 rw [← hq]
 clear hR1 hb1 hq hnn SH HS HS1 x0 x3 x4 x5 x6 hL e9
 go_wp2_with (first
  | (refine app8k rfl (.tmp 16) (.tmp 19) rfl B v n bs rfl HOw ⟨g1, 0, none⟩ q c1 L rfl HQ.o HN1 hq1 (n + q) rfl (bs ++ L) rfl (by omega) hBw ?_; intro g4 c4 w4 HR4 HK4; have HO4 := hidU (HR4.o.below (bl_a (.cells #[.int .u8 32] 5))); have HN4 := hidU (one_news w4 32); have hB4 : B ≤ (w4.alloc (.cells #[.int .u8 32] 5)).heap.size := Nat.le_trans hBw (Nat.le_trans HK4.o.size (by simp)); clear HN1 HOw hBw)
  | (refine app8k rfl (.tmp 20) (.tmp 21) rfl B (.slice (some ⟨g4, 0, none⟩) (n + q) c4) (n + q) (bs ++ L) rfl HO4 ⟨w4.heap.size, 0, none⟩ 1 1 [32] rfl rfl HN4 (by omega) (n + q + 1) rfl (bs ++ L ++ [32]) rfl (by omega) hB4 ?_; intro g5 c5 w5 HR5 HK5; clear HO4 HN4 hB4))
 go_ret
 refine ⟨_, rfl, HR5.o.to HT.o ?_, HKW.o.trans (HK4.o.trans (Kp.pre (bl_a _) HK5.o))⟩
 have h := HR5.o.len
 rw [← HT.o]
 exact h.symm
theorem sayExpr_2 (d : EN) (kid : Nat → ET) (hkv : d.k = 2) (lim deep : Int) (v : Value) (B : Nat) (bs : List Int) (w0 w : World) (hl : (ET.mk d kid).lies 0 w0) (hok : eOk lim (.mk d kid) deep) (HO : Own8 w B v bs.length bs) (hw : Bl w0 w) (hwB : w0.heap.size ≤ B) (hB : B ≤ w.heap.size) (hn : bs.length + 80 * esz (.mk d kid) ≤ 900000)
 (IH : ∀ i, i < d.n → SayE 98 w0 B (kid i)) :
 Calls Tryz.prog 98 #[v, .agg d.ar] w (SayK B v (bs ++ eTx (.mk d kid)) w) := by
 try unfold EN.ar
 obtain ⟨hv, ht, hf, hn2, hR, hk⟩ := hl
 obtain ⟨hdp, ⟨hko, hvo, _, hto, _, hop, _⟩, hkid⟩ := hok
 unfold kOk at hko
 rw [hkv] at hko
 obtain ⟨W, hW⟩ : ∃ W, W = w.alloc (.cells (d.ca 2) 100) := ⟨_, rfl⟩
 have hbW : Bl w W := by rw [hW]; exact bl_a _
 have HWE := iH hW
 have HNV := iH HO.off1
 have HBW := iH hbW
 have HS : Hd (SB w0 w W B v v bs (cellsE d 2) W) := ⟨HO.below hbW, Kp.of_below brf, (show Box _ _ _ by rw [hW]; exact Box.new w (d.ca 2) 100 _), hw.trans (hbW.mono hw.size), Nat.le_trans hB hbW.size, HO.off1⟩
 have HN := iH (show d.n = 2 by omega)
 obtain ⟨b, off, eK, _, hbk, hck⟩ := hR.resolve_left (by have h := HN.o; omega)
 have HEK := iH eK
 have HCK := iH hck
 have HKD := iH IH
 have HKL := iH (fun i (hi : i < d.n) => eTx_len (hkid i hi))
 clear eK hck
 have HLN : Hd (bs.length + 80 * (1 + (esz (kid 0) + esz (kid 1))) ≤ 900000) := (show _ ≤ _ by have h : esz (.mk d kid) = 1 + sumN d.n _ := rfl; rw [HN.o] at h; have h2 : sumN 2 (fun i => esz (kid i)) = esz (kid 0) + esz (kid 1) := (by simp [sumN]); omega)
 have HT : Hd (bs ++ [40, 32] ++ eTx (kid 0) ++ [opB d.op, 32] ++ eTx (kid 1) ++ [41, 32] = bs ++ eTx (.mk d kid)) := (show _ = _ by rw [eTx_mk, hkv]; simp)
 have hb0 : 0 < d.n := by have h := HN.o; omega
 have hb1 : 1 < d.n := by have h := HN.o; omega
 have hb1z : (1 : Int) < (d.n : Int) := by have h := HN.o; omega
 have HOP := iH hop
 have HF : Hd (∀ w', (Bl w0 w' ∧ Box w' w.heap.size (cellsE d 2)) → w'.cell? ⟨w.heap.size, 7, none⟩ = some (.slice (some ⟨b, off, none⟩) d.n d.kc) ∧ w'.cell? ⟨w.heap.size, 1, none⟩ = some (.int .i64 d.op) ∧ True) := fun w' hw' => ⟨(by have h := hw'.2.2 7 _ rfl; rw [HEK.o] at h; exact h), hw'.2.2 1 _ rfl, trivial⟩
 have HRG0 : Hd (∀ w', (Bl w0 w' ∧ Box w' w.heap.size (cellsE d 2)) → w'.rangeAt b off (kid 0).d.cl) := fun w' hw' c u hu => (hw'.1.cell (p := ⟨b, off + c, none⟩) hbk).trans (by have h := HCK.o 0 (by have h := HN.o; omega) c u hu; simpa using h)
 rw [hkv]
 clear HO hw hB hbW hR hv ht hf hk hko hvo hto hop hdp hkid hkv hn2 IH
 go_in
 go_upto_region 1 with fail
 rw [← hW]
 clear hW
 have x0 := HS.o.bx.2 0 _ rfl
 have HS0 := iH (HS.o.below bdr)
 go_wp2_with fail
 refine whd (fun w' => Bl w0 w' ∧ Box w' w.heap.size (cellsE d 2)) ?_ fun hHeld => ?_
 · exact ⟨Below.drew HS.o.bl, HS.o.bx.below bdr⟩
 refine tkB 0 25 ?_
 refine tkB 2 27 ?_
 refine tkA 3 28 (v := ?v3) ?y3 ?_
 case y3 => (intro w' hSw; obtain ⟨q1, q2, q3⟩ := HF.o w' hSw; go_simp; (try with_reducible rfl))
 refine tkB 4 29 ?_
 refine takeq (i := 5) 30 (v := .agg (kid 0).d.ar) rfl rfl (by kernel_rfl) (by kernel_rfl) (by kernel_rfl) (fun _ _ _ h => h) (yieldsIf_load_mid (by rfl) 100 _ rfl b off rfl (kid 0).d.cl _ HRG0.o Tryz.underlying100 rfl (by kernel_rfl)) hHeld ?_
 refine tkB 7 32 ?_
 refine tkA 8 33 (v := ?v6) ?y6 ?_
 case y6 => (intro w' hSw; obtain ⟨q1, q2, q3⟩ := HF.o w' hSw; go_simp; (try with_reducible rfl))
 try simp only [Act.put, sA, zA, cA]
 refine rdA 1 fun K hK => ?_
 go_simp
 refine (l4wordK v B (bs) ⟨#[40]⟩ _ HS0.o.own HS0.o.lo (by decide) (by have h := HLN.o; (try simp only [lA, lC, lN]); rw [show (ByteArray.mk #[40]).size = 1 from rfl]; omega)).mono ?_
 rintro e z1 ⟨v1, rfl, hO1, hK1⟩
 have HS1 : Hd (SB w0 w W B v v1 (bs ++ [40, 32]) (cellsE d 2) z1) := HS0.o.step HWE.o HNV.o hwB hO1 hK1
 clear hO1 hK1
 go_wp2_with fail
 refine hK.out _ _ ?_ fun hHeld => ?_
 · exact ⟨HS1.o.bl, HS1.o.bx⟩
 clear hK K
 try simp only [Act.put, sA, zA, cA]
 refine rdA 6 fun K hK => ?_
 go_simp
 refine ((HKD.o 0 (by have h := HN.o; omega)) v1 (bs ++ [40, 32]) _ HS1.o.own HS1.o.bl HS1.o.lo (by have h := HLN.o; have h0 := HKL.o 0 (by have h := HN.o; omega); have h1 := HKL.o 1 (by have h := HN.o; omega); simp only [lA, lC, lN]; omega)).mono ?_
 rintro e z2 ⟨v2, rfl, hO2, hK2⟩
 have HS2 := iH (HS1.o.step HWE.o HNV.o hwB hO2 hK2)
 clear hO2 hK2
 go_wp2_with fail
 refine hK.out _ _ ?_ fun hHeld => ?_
 · exact ⟨HS2.o.bl, HS2.o.bx⟩
 clear hK K
 try simp only [Act.put, sA, zA, cA]
 refine rdA 9 fun K hK => ?_
 go_simp
 refine (l4op_any d.op _ HOP.o.1 HOP.o.2).mono ?_
 rintro e zo ⟨st, rfl, hst, hsz, hbo⟩
 have HS2o := iH (HS2.o.below hbo)
 have HST : Hd (numsOf st ++ [32] = [opB d.op, 32] ∧ st.size = 1) := ⟨by rw [hst]; rfl, hsz⟩
 clear hst hsz hbo HS2
 go_wp2_with fail
 refine hK.out _ _ ?_ fun hHeld => ?_
 · exact ⟨HS2o.o.bl, HS2o.o.bx⟩
 clear hK K
 try simp only [Act.put, sA, zA, cA]
 have HS2 := HS2o
 clear HS2o
 refine rdA 10 fun K hK => ?_
 go_simp
 refine (l4wordK v2 B _ st _ HS2.o.own HS2.o.lo (by rw [HST.o.2]; decide) (by have h := HLN.o; have h0 := HKL.o 0 (by have h := HN.o; omega); rw [HST.o.2]; simp only [lA, lC, lN]; omega)).mono ?_
 rintro e z3 ⟨v3, rfl, hO3, hK3⟩
 have HS3 := iH (HS2.o.step HWE.o HNV.o hwB hO3 hK3)
 clear hO3 hK3
 go_wp2_with fail
 refine hK.out _ _ ?_ fun hHeld => ?_
 · exact ⟨HS3.o.bl, HS3.o.bx⟩
 clear hK K
 refine tkB 11 0 ?_
 refine wpAnyH_done (by kernel_rfl) ?_ _
 clear hHeld HF HS0 HS1 HS2 HS
 rw [HST.o.1] at HS3
 have x7 := HS3.o.bx.2 7 _ rfl
 rw [HEK.o] at x7
 have hcx : z3.rangeAt b (off + 8) (kid 1).d.cl := fun c u hu => (HS3.o.bl.cell (p := ⟨b, off + 8 + c, none⟩) hbk).trans (by have h := HCK.o 1 (by have h := HN.o; omega) c u hu; simpa using h)
 go_wp2_with (with_reducible refine wpq_at ?_; refine wpList_load_mid rfl 100 _ rfl b (off + 8) rfl (kid 1).d.cl _ hcx Tryz.underlying100 rfl (by kernel_rfl) ?_; try simp only [Act.put, sA, zA, cA])
 refine ((HKD.o 1 (by have h := HN.o; omega)) v3 _ _ HS3.o.own HS3.o.bl HS3.o.lo (by have h := HLN.o; have h0 := HKL.o 0 (by have h := HN.o; omega); have h1 := HKL.o 1 (by have h := HN.o; omega); simp only [lA, lC, lN]; omega)).mono ?_
 rintro e z4 ⟨v4, rfl, hO4, hK4⟩
 have HS4 := iH (HS3.o.step HWE.o HNV.o hwB hO4 hK4)
 clear hO4 hK4
 clear hcx x7 HS3
 go_wp2_with fail
 refine (l4wordK v4 B _ ⟨#[41]⟩ _ HS4.o.own HS4.o.lo (by decide) (by have h := HLN.o; have h0 := HKL.o 0 (by have h := HN.o; omega); have h1 := HKL.o 1 (by have h := HN.o; omega); (try simp only [lA, lC, lN]); rw [show (ByteArray.mk #[41]).size = 1 from rfl]; omega)).mono ?_
 rintro e z5 ⟨v5, rfl, hO5, hK5⟩
 have HS5 : Hd (SB w0 w W B v v5 (bs ++ [40, 32] ++ eTx (kid 0) ++ [opB d.op, 32] ++ eTx (kid 1) ++ [41, 32]) (cellsE d 2) z5) := HS4.o.step HWE.o HNV.o hwB hO5 hK5
 clear hO5 hK5
 clear HS4
 go_wp2
 go_ret
 exact ⟨_, rfl, HT.o ▸ HS5.o.own, Kp.pre HBW.o HS5.o.kp⟩
theorem sayExpr_3 (d : EN) (kid : Nat → ET) (hkv : d.k = 3) (lim deep : Int) (v : Value) (B : Nat) (bs : List Int) (w0 w : World) (hl : (ET.mk d kid).lies 0 w0) (hok : eOk lim (.mk d kid) deep) (HO : Own8 w B v bs.length bs) (hw : Bl w0 w) (hwB : w0.heap.size ≤ B) (hB : B ≤ w.heap.size) (hn : bs.length + 80 * esz (.mk d kid) ≤ 900000)
 (IH : ∀ i, i < d.n → SayE 98 w0 B (kid i)) :
 Calls Tryz.prog 98 #[v, .agg d.ar] w (SayK B v (bs ++ eTx (.mk d kid)) w) := by
 try unfold EN.ar
 obtain ⟨hv, ht, hf, hn2, hR, hk⟩ := hl
 obtain ⟨hdp, ⟨hko, hvo, _, hto, _, hop, _⟩, hkid⟩ := hok
 unfold kOk at hko
 rw [hkv] at hko
 obtain ⟨W, hW⟩ : ∃ W, W = w.alloc (.cells (d.ca 3) 100) := ⟨_, rfl⟩
 have hbW : Bl w W := by rw [hW]; exact bl_a _
 have HWE := iH hW
 have HNV := iH HO.off1
 have HBW := iH hbW
 have HS : Hd (SB w0 w W B v v bs (cellsE d 3) W) := ⟨HO.below hbW, Kp.of_below brf, (show Box _ _ _ by rw [hW]; exact Box.new w (d.ca 3) 100 _), hw.trans (hbW.mono hw.size), Nat.le_trans hB hbW.size, HO.off1⟩
 have HN := iH (show d.n = 1 by omega)
 obtain ⟨b, off, eK, _, hbk, hck⟩ := hR.resolve_left (by have h := HN.o; omega)
 have HEK := iH eK
 have HCK := iH hck
 have HKD := iH IH
 have HKL := iH (fun i (hi : i < d.n) => eTx_len (hkid i hi))
 clear eK hck
 have HLN : Hd (bs.length + 80 * (1 + esz (kid 0)) ≤ 900000) := (show _ ≤ _ by have h : esz (.mk d kid) = 1 + sumN d.n _ := rfl; rw [HN.o] at h; have h2 : sumN 1 (fun i => esz (kid i)) = esz (kid 0) := (by simp [sumN]); omega)
 have HT : Hd (bs ++ [78, 79, 84, 32] ++ eTx (kid 0) = bs ++ eTx (.mk d kid)) := (show _ = _ by rw [eTx_mk, hkv]; simp)
 have hb0 : 0 < d.n := by have h := HN.o; omega
 have HF : Hd (∀ w', (Bl w0 w' ∧ Box w' w.heap.size (cellsE d 3)) → w'.cell? ⟨w.heap.size, 7, none⟩ = some (.slice (some ⟨b, off, none⟩) d.n d.kc) ∧ w'.cell? ⟨w.heap.size, 1, none⟩ = some (.int .i64 d.op) ∧ True) := fun w' hw' => ⟨(by have h := hw'.2.2 7 _ rfl; rw [HEK.o] at h; exact h), hw'.2.2 1 _ rfl, trivial⟩
 have HRG0 : Hd (∀ w', (Bl w0 w' ∧ Box w' w.heap.size (cellsE d 3)) → w'.rangeAt b off (kid 0).d.cl) := fun w' hw' c u hu => (hw'.1.cell (p := ⟨b, off + c, none⟩) hbk).trans (by have h := HCK.o 0 (by have h := HN.o; omega) c u hu; simpa using h)
 rw [hkv]
 clear HO hw hB hbW hR hv ht hf hk hko hvo hto hop hdp hkid hkv hn2 IH
 go_in
 go_upto_region 1 with fail
 rw [← hW]
 clear hW
 have x0 := HS.o.bx.2 0 _ rfl
 have HS0 := iH (HS.o.below bdr)
 go_wp2_with fail
 refine whd (fun w' => Bl w0 w' ∧ Box w' w.heap.size (cellsE d 3)) ?_ fun hHeld => ?_
 · exact ⟨Below.drew HS.o.bl, HS.o.bx.below bdr⟩
 refine tkB 0 45 ?_
 refine tkB 2 47 ?_
 refine tkA 3 48 (v := ?v10) ?y10 ?_
 case y10 => (intro w' hSw; obtain ⟨q1, q2, q3⟩ := HF.o w' hSw; go_simp; (try with_reducible rfl))
 refine tkB 4 49 ?_
 refine takeq (i := 5) 50 (v := .agg (kid 0).d.ar) rfl rfl (by kernel_rfl) (by kernel_rfl) (by kernel_rfl) (fun _ _ _ h => h) (yieldsIf_load_mid (by rfl) 100 _ rfl b off rfl (kid 0).d.cl _ HRG0.o Tryz.underlying100 rfl (by kernel_rfl)) hHeld ?_
 try simp only [Act.put, sA, zA, cA]
 refine rdA 1 fun K hK => ?_
 go_simp
 refine (l4wordK v B (bs) _ _ HS0.o.own HS0.o.lo (by decide) (by have h := HLN.o; (try simp only [lA, lC, lN]); rw [show (ByteArray.mk #[78, 79, 84]).size = 3 from rfl]; omega)).mono ?_
 rintro e z1 ⟨v1, rfl, hO1, hK1⟩
 have HS1 : Hd (SB w0 w W B v v1 (bs ++ [78, 79, 84, 32]) (cellsE d 3) z1) := HS0.o.step HWE.o HNV.o hwB hO1 hK1
 clear hO1 hK1
 go_wp2_with fail
 refine hK.out _ _ ?_ fun hHeld => ?_
 · exact ⟨HS1.o.bl, HS1.o.bx⟩
 clear hK K
 try simp only [Act.put, sA, zA, cA]
 refine rdA 6 fun K hK => ?_
 go_simp
 refine ((HKD.o 0 (by have h := HN.o; omega)) v1 _ _ HS1.o.own HS1.o.bl HS1.o.lo (by have h := HLN.o; have h0 := HKL.o 0 (by have h := HN.o; omega); simp only [lA, lC, lN]; omega)).mono ?_
 rintro e z2 ⟨v2, rfl, hO2, hK2⟩
 have HS2 := iH (HS1.o.step HWE.o HNV.o hwB hO2 hK2)
 clear hO2 hK2
 go_wp2_with fail
 refine hK.out _ _ ?_ fun hHeld => ?_
 · exact ⟨HS2.o.bl, HS2.o.bx⟩
 clear hK K
 refine tkB 7 4 ?_
 refine wpAnyH_done (by kernel_rfl) ?_ _
 clear hHeld HF HS0 HS1 HS
 go_wp2
 go_ret
 exact ⟨_, rfl, HT.o ▸ HS2.o.own, Kp.pre HBW.o HS2.o.kp⟩
end Go.Proofs.YthljoojcpbignaaGreatDoor
