import Derived.Test.YthljoojcpbignaaGreatDoorMk15
import Derived.Test.YthljoojcpbignaaGreatDoorMk14
namespace Go.Proofs.YthljoojcpbignaaGreatDoor
open Go.RowKit Go.Deep
set_option maxHeartbeats 40000000
set_option maxRecDepth 100000
def showL (k n s : Int) (bs : List Int) : List Int :=
 if k = 0 then 60 :: (bs ++ [62]) else if k = 1 then 95 :: 58 :: digitsL n.toNat else if k = 2 then 34 :: (esc bs ++ [34]) else if n < 0 then 45 :: numL (-n) s.toNat else numL n s.toNat
def shownL (k n s : Int) (bs : List Int) : List Int := if termOk k bs n s = true then showL k n s bs else []
theorem digitsL_byt (n : Nat) : Byt (digitsL n) := by
 induction n using Nat.strongRecOn with
 | ind n ih =>
  by_cases h : n < 10
  · rw [digitsL_small h]
    exact Byt.cons (by omega) Byt.nil
  rw [digitsL_step h]
  exact (ih _ (by omega)).app (Byt.cons (by omega) Byt.nil)
theorem esc_byt {bs : List Int} (h : Byt bs) : Byt (esc bs) := by
 intro x hx
 unfold esc at hx
 obtain ⟨b, hb, hx⟩ := List.mem_flatMap.1 hx
 have := h b hb
 split at hx
 · simp at hx
   rcases hx with rfl | rfl
   · omega
   exact this
 simp at hx
 subst hx
 exact this
theorem rep_byt (n : Nat) : Byt (List.replicate n 48) := by
 intro x hx
 have := (List.mem_replicate.1 hx).2
 omega
theorem numL_byt (n : Int) (s : Nat) : Byt (numL n s) := by
 unfold numL
 refine (digitsL_byt _).app ?_
 split
 · exact Byt.nil
 exact Byt.cons (by omega) ((rep_byt _).app (digitsL_byt _))
theorem showL_byt {k n s : Int} {bs : List Int} (h : Byt bs) : Byt (showL k n s bs) := by
 unfold showL
 split
 · exact Byt.cons (by omega) (h.app (Byt.cons (by omega) Byt.nil))
 split
 · exact Byt.cons (by omega) (Byt.cons (by omega) (digitsL_byt _))
 split
 · exact Byt.cons (by omega) ((esc_byt h).app (Byt.cons (by omega) Byt.nil))
 split
 · exact Byt.cons (by omega) (numL_byt _ _)
 exact numL_byt _ _
theorem numOk_bounds {n s : Int} (h : numOk n s = true) : 0 ≤ s ∧ s ≤ 6 ∧ -1000000000000000 ≤ n ∧ n ≤ 1000000000000000 := by
 simp [numOk] at h
 exact ⟨h.1.1.1.1, h.1.1.1.2, h.1.1.2, h.1.2⟩
theorem numL_len (n : Int) (s : Nat) (h0 : 0 ≤ n) (h1 : n ≤ 1000000000000000) (hs : s ≤ 6) : 1 ≤ (numL n s).length ∧ (numL n s).length ≤ 40 := by
 have hp := p10_pos s
 have hp6 := p10_le hs
 have d0 : 0 ≤ n / p10 s := Int.ediv_nonneg h0 (by omega)
 have d1 : n / p10 s ≤ n := Int.ediv_le_self _ h0
 have m0 : 0 ≤ n % p10 s := Int.emod_nonneg _ (by omega)
 have m1 : n % p10 s < p10 s := Int.emod_lt_of_pos _ (by omega)
 have hL1 := digitsL_len 16 (n / p10 s).toNat (by omega)
 have hL2 := digitsL_len 6 (n % p10 s).toNat (by omega)
 have hq1 := digitsL_pos (n / p10 s).toNat
 unfold numL
 split
 · simp; omega
 simp; omega
theorem showL_len {k n s : Int} {bs : List Int} (h : termOk k bs n s = true) : 1 ≤ (showL k n s bs).length ∧ (showL k n s bs).length ≤ 64 := by
 unfold showL
 unfold termOk at h
 split at h
 · rename_i hk
   rw [if_pos hk]
   simp [nameOk] at h
   simp
   omega
 split at h
 · rename_i h0 hk
   rw [if_neg h0, if_pos hk]
   have := digitsL_len 18 n.toNat (by simp at h; omega)
   simp
   omega
 split at h
 · rename_i h0 h1 hk
   rw [if_neg h0, if_neg h1, if_pos hk]
   simp [textOk] at h
   have := esc_len bs
   simp
   omega
 split at h
 · rename_i h0 h1 h2 hk
   rw [if_neg h0, if_neg h1, if_neg h2]
   simp only [Bool.and_eq_true] at h
   have hb := numOk_bounds h.2
   split
   · have := numL_len (-n) s.toNat (by omega) (by omega) (by omega)
     simp
     omega
   have := numL_len n s.toNat (by omega) (by omega) (by omega)
   omega
 cases h
def Nw (w : World) (B : Nat) (a : Option Addr) (len : Nat) (bs : List Int) : Prop := (a = none ∧ len = 0 ∧ bs = []) ∨ ∃ g, a = some ⟨g, 0, none⟩ ∧ B ≤ g ∧ OwnT w g len bs
theorem Nw.bs {w : World} {B : Nat} {a : Option Addr} {len : Nat} {bs : List Int} (h : Nw w B a len bs) : Bs w a len bs := by
 rcases h with ⟨rfl, rfl, rfl⟩ | ⟨g, rfl, _, ho⟩
 · exact ⟨rfl, by omega, by simp, .inl rfl⟩
 exact ho.1
theorem Nw.mono {w : World} {B B' : Nat} {a : Option Addr} {len : Nat} {bs : List Int} (h : Nw w B a len bs) (hB' : B' ≤ B) : Nw w B' a len bs := by
 rcases h with h | ⟨g, ha, hB, ho⟩
 · exact .inl h
 exact .inr ⟨g, ha, by omega, ho⟩
theorem Nw.nil (w : World) (B : Nat) : Nw w B none 0 [] := .inl ⟨rfl, rfl, rfl⟩
theorem Row8.nw {w : World} {B g n cap : Nat} {bs : List Int} (h : Row8 w B g n cap bs) (hb : Byt bs) (hl : n ≤ 1048576) : Nw w B (some ⟨g, 0, none⟩) n bs := by
 have hn := h.news
 have hge := h.ge
 have hlen := h.len
 refine .inr ⟨g, rfl, hge, ⟨hlen, hl, hb.get, .inr ⟨g, 0, rfl, h.2, fun i hi => ?_⟩⟩, h.2, fun i hi => ?_, fun i hi => ?_⟩
 · have ea : (⟨g, 0, none⟩ : Addr).add i = ⟨g, 0 + i, none⟩ := by
    by_cases h0 : i = 0 <;> simp [Addr.add, h0]
   rw [← ea]
   refine hn i _ ?_
   rw [List.getElem?_map, List.getElem?_eq_getElem (by omega)]
   rfl
 · have ea : (⟨g, 0, none⟩ : Addr).add i = ⟨g, i, none⟩ := by
    by_cases h0 : i = 0 <;> simp [Addr.add, h0]
   refine ⟨bs[i]?.getD 0, ?_⟩
   rw [← ea]
   refine hn i _ ?_
   rw [List.getElem?_map, List.getElem?_eq_getElem (by omega)]
   rfl
 rcases h.1.2 with ⟨hv, _⟩ | ⟨g', cap', cur, hv, hB, hh, _⟩
 · cases hv
 cases hv
 simp [World.frozen?, hh]
theorem Tx.nw {w : World} {B : Nat} {a : Option Addr} {len cap : Nat} {bs : List Int} (h : Tx w B a len cap bs) : Nw w B a len bs := by
 rcases h.2 with ⟨rfl, rfl, _⟩ | ⟨g, rfl, hB, hg, hl, hc⟩
 · exact .inl ⟨rfl, rfl, List.eq_nil_of_length_eq_zero h.1.1⟩
 exact .inr ⟨g, rfl, hB, h.1, hg, fun i hi => (hc i (by omega)).1, fun i hi => (hc i (by omega)).2⟩
def TxRes (w : World) (bs : List Int) (e : Ending) (w' : World) : Prop := ∃ a cap, e = .returned (.slice a bs.length cap) ∧ Nw w' w.heap.size a bs.length bs ∧ Bl w w'
theorem DigRes.tx {w : World} {bs : List Int} {e : Ending} {w' : World} (h : DigRes w bs e w') (hb : Byt bs) (hl : bs.length ≤ 1048576) : TxRes w bs e w' := by
 obtain ⟨g, cap, he, hr, hbl⟩ := h
 exact ⟨_, cap, he, hr.nw hb hl, hbl⟩
theorem DigRes.later {w w1 : World} {bs : List Int} {e : Ending} {w' : World} (h : DigRes w1 bs e w') (hb : Bl w w1) : DigRes w bs e w' := by
 obtain ⟨g, cap, he, hr, hbl⟩ := h
 exact ⟨g, cap, he, hr.mono hb.size, bl_trans hb hbl⟩
theorem l1show_num (n s : Int) (a : Option Addr) (len cap : Nat) (w : World) (h : numOk n s = true) :
 Calls Tryz.prog 99 #[.agg #[.int .i64 3, .slice a len cap, .int .i64 n, .int .i64 s]] w fun e w' => DigRes w (showL 3 n s []) e w' := by
 have hb := numOk_bounds h
 have C : ∀ w, Calls Tryz.prog 135 #[.agg #[.int .i64 3, .slice a len cap, .int .i64 n, .int .i64 s]] w fun e w' => DigRes w (showL 3 n s []) e w' := by
  intro w
  obtain ⟨t, rfl⟩ : ∃ t : Nat, s = t := ⟨s.toNat, by omega⟩
  by_cases hn : n < 0
  · obtain ⟨m, rfl⟩ : ∃ m, n = -m := ⟨-n, by omega⟩
    have := l1number_neg m t a len cap w (by omega) (by omega) (by omega)
    have e : showL 3 (-m) t [] = 45 :: numL m t := by simp [showL]; omega
    rw [e]
    exact this
  have := l1number_pos n t a len cap w (by omega) (by omega) (by omega)
  have e : showL 3 n t [] = numL n t := by simp [showL, hn]
  rw [e]
  exact this
 generalize showL 3 n s [] = L at *
 go_in
 go_wp2_with fail
 refine (C _).mono ?_
 intro e w1 hR
 have hR' := hR.later (bl_a _)
 clear hR
 obtain ⟨g, cp, rfl, hr, hbl⟩ := hR'
 go_wp2
 go_ret
 exact ⟨g, cp, rfl, hr, hbl⟩
theorem l1show_any (k n s : Int) (a : Option Addr) (len cap : Nat) (bs : List Int) (w : World) (hB : Bs w a len bs) (hok : termOk k bs n s = true) :
 Calls Tryz.prog 99 #[.agg #[.int .i64 k, .slice a len cap, .int .i64 n, .int .i64 s]] w fun e w' => DigRes w (showL k n s bs) e w' := by
 have h := hok
 unfold termOk at h
 split at h
 · rename_i hk
   subst hk
   simp [nameOk] at h
   have hl := hB.1
   rcases hB.2.2.2 with h0 | ⟨b, off, rfl, hr⟩
   · omega
   have := l1show_name n s b off len cap bs w hB (by omega)
   simpa [showL] using this
 split at h
 · rename_i h0 hk
   subst hk
   simp at h
   obtain ⟨m, rfl⟩ : ∃ m : Nat, n = m := ⟨n.toNat, by omega⟩
   have := l1show_blank m s a len cap w (by omega)
   simpa [showL] using this
 split at h
 · rename_i h0 h1 hk
   subst hk
   have := l1show_text n s a len cap bs w hB
   simpa [showL] using this
 split at h
 · rename_i h0 h1 h2 hk
   subst hk
   simp only [Bool.and_eq_true] at h
   have := l1show_num n s a len cap w h.2
   have e : showL 3 n s bs = showL 3 n s [] := by simp [showL]
   rw [e]
   exact this
 cases h
theorem foldN_inv {α : Type} {P : α → Prop} {n : Nat} {f : Nat → α → α} (h : ∀ i, i < n → ∀ a, P a → P (f i a)) {a : α} (ha : P a) : P (foldN n f a) := by
 induction n with
 | zero => exact ha
 | succ n ih => exact h n (by omega) _ (ih (fun i hi => h i (by omega)))
def Names (l : List (List Int)) : Prop := ∀ v, v ∈ l → nameOk v = true
theorem addV_name {l : List (List Int)} {v : List Int} (hl : Names l) (hv : v = [] ∨ nameOk v = true) : Names (addV l v) := by
 unfold addV
 split
 · exact hl
 rename_i h
 intro x hx
 rcases List.mem_append.1 hx with hx | hx
 · exact hl x hx
 rw [List.mem_singleton.1 hx]
 exact hv.resolve_left (fun e => h (.inl e))
theorem eV_name {lim : Int} {e : ET} : ∀ {deep : Int} {l : List (List Int)}, eOk lim e deep → Names l → Names (eV e l) := by
 induction e with
 | nil => exact fun h => False.elim h
 | mk d kid ih =>
  intro deep l h hl
  obtain ⟨_, hN, hk⟩ := h
  refine foldN_inv (P := Names) (fun i hi a ha => ih i (hk i hi) ha) (addV_name hl ?_)
  by_cases hh : d.k = 0 ∨ d.k = 4
  · exact .inr (hN.2.1 hh)
  exact .inl (hN.2.2.1 hh)
theorem eV_zero {e : ET} {l : List (List Int)} (h : zeroE e) (hl : Names l) : Names (eV e l) := by
 cases e with
 | nil => exact hl
 | mk d kid =>
  obtain ⟨_, _, h1, _, h2⟩ := h
  have h1 : d.v.b = [] := h1
  have h2 : d.n = 0 := h2
  show Names (foldN d.n (fun i acc => eV (kid i) acc) (addV l d.v.b))
  rw [h2]
  exact addV_name hl (.inl h1)
theorem it_name {x : IB} {m : Int} (h : itOk x m) : x.v.b = [] ∨ nameOk x.v.b = true := by
 rcases h with ⟨_, h, _⟩ | ⟨h, _⟩
 · exact .inr h
 exact .inl h
theorem uV_name {e : UT} : ∀ {deep : Int} {l : List (List Int)}, uOk e deep → Names l → Names (uV e l) := by
 induction e with
 | nil => exact fun h => False.elim h
 | mk d ka kb ia ib =>
  intro deep l h hl
  obtain ⟨_, hN, hX, hA, hB⟩ := h
  refine foldN_inv (P := Names) (fun i hi a ha => ib i (hB i hi) ha) (foldN_inv (P := Names) (fun i hi a ha => ia i (hA i hi) ha) (addV_name ?_ ?_))
  · have hp : Names (ptV d.p l) := by
     by_cases hk : d.k = 0
     · have h := hN.p1 hk
       exact addV_name (addV_name (addV_name hl (it_name h.1)) (it_name h.2.1)) (it_name h.2.2)
     have h := hN.p0 hk
     exact addV_name (addV_name (addV_name hl (.inl h.1.1)) (.inl h.2.1.1)) (.inl h.2.2.1)
    by_cases hk : hasX d.k
    · exact eV_name (hX hk) hp
    exact eV_zero (hN.e0 hk) hp
  by_cases hk : hasN d.k
  · exact .inr (hN.v1 hk)
  exact .inl (hN.v0 hk)
theorem gV_name {n : Nat} {f : Nat → UT} {deep : Int} (h : ∀ i, i < n → uOk (f i) deep) : Names (gV n f []) := foldN_inv (P := Names) (fun i hi _ ha => uV_name (h i hi) ha) (fun _ hv => by cases hv)
theorem uc_le {e : UT} : ∀ {deep : Int}, uOk e deep → uc e ≤ 5 * usz e := by
 induction e with
 | nil => exact fun h => False.elim h
 | mk d ka kb ia ib =>
  intro deep h
  obtain ⟨_, hn, _, hA, hB⟩ := h
  have hs : ∀ (f : Nat → UT) (m n : Nat), m ≤ n → (∀ i, i < n → uc (f i) ≤ 5 * usz (f i)) → sumN m (fun i => uc (f i)) ≤ 5 * sumN m (fun i => usz (f i)) := by
   intro f m n
   induction m with
   | zero => exact fun _ _ => nR
   | succ m ihm =>
    intro hm hf
    have h2 := ihm (by omega) hf
    have h3 := hf m (by omega)
    show sumN m (fun i => uc (f i)) + uc (f m) ≤ 5 * (sumN m (fun i => usz (f i)) + usz (f m))
    omega
  have h1 := hs ka d.an d.an nR (fun i hi => ia i (hA i hi))
  have h2 := hs kb d.bn d.bn nR (fun i hi => ib i (hB i hi))
  show 3 + esz d.e + 1 + (sumN d.an (fun i => uc (ka i)) + sumN d.bn (fun i => uc (kb i))) ≤ 5 * (ownU d + (sumN d.an (fun i => usz (ka i)) + sumN d.bn (fun i => usz (kb i))))
  unfold ownU
  split
  · omega
  rename_i hE
  have h3 := hn.e0 hE
  have h4 : esz d.e ≤ 1 := by
   cases he : d.e with
   | nil => exact nZ
   | mk d2 k2 =>
    rw [he] at h3
    have h5 : d2.n = 0 := h3.2.2.2.2
    show 1 + sumN d2.n _ ≤ 1
    rw [h5]
    exact nR
  omega
theorem ucs_le {n : Nat} {f : Nat → UT} {deep : Int} (h : ∀ i, i < n → uOk (f i) deep) : sumN n (fun i => uc (f i)) ≤ 5 * sumN n (fun i => usz (f i)) := by
 induction n with
 | zero => exact nR
 | succ n ih =>
  have h1 := ih (fun i hi => h i (by omega))
  have h2 := uc_le (h n (by omega))
  show sumN n (fun i => uc (f i)) + uc (f n) ≤ 5 * (sumN n (fun i => usz (f i)) + usz (f n))
  omega
def bodyOk (x : QY) : Prop := (∀ i, i < x.bn → uOk (x.body i) 1) ∧ sumN x.bn (fun i => usz (x.body i)) ≤ 120
structure qOk (x : QY) : Prop where
 b : bodyOk x
 d : gBd x.bn x.body
 v : (gV x.bn x.body []).length ≤ 8
 n : x.sn ≤ 8 ∧ x.gn ≤ 4 ∧ x.on ≤ 4 ∧ (-1 ≤ x.lim ∧ x.lim ≤ 999) ∧ 0 ≤ x.off ∧ x.off ≤ 999
 a : x.ask = true → x.dis = false ∧ x.sn = 0 ∧ x.gn = 0 ∧ x.on = 0 ∧ x.lim = -1 ∧ x.off = 0
 s : x.ask = false → SelsP (gV x.bn x.body []) x
theorem wpu_load {P : Program} {ops : Array Oper} {rest : List Oper} {op : Oper} {a : Act} {w : World} {Q : Exit → Act → World → Prop} (hw : Region.wanted op (yielded ops a.tmps) = true) (ty : TypeId) (x : Operand) (ho : op.op = .load ty x)
 (b o : Nat) (hx : a.eval x = .pointer (some ⟨b, o, none⟩)) (cs : List Value) (d : TypeDesc) (hc : w.rangeAt b o cs)
 (hu : P.underlying ty = some d) (hd : d.isRow = true) (hi : (P.info? ty).map (·.size) = some cs.length)
 (h : wpList P ops Q rest (a.put op.dst (.agg cs.toArray)) w) : wpList P ops Q (op :: rest) a w :=
 BigFrame.wpList_want hw fun _ hK => wp_load_mid ty x ho b o hx cs d hc hu hd hi (hK _ _ h)
theorem wpu_stop {P : Program} {ops : Array Oper} {rest : List Oper} {op : Oper} {a : Act} {w : World} {Q : Exit → Act → World → Prop} (ty : TypeId) (x : Operand) (_ : op.op = .load ty x) (h : Hd (wpList P ops Q (op :: rest) a w)) : wpList P ops Q (op :: rest) a w := h
theorem l4ok_any (x : QY) (w : World) (hx : x.lies 0 w) (hcp : ∀ i, i < x.bn → (x.body i).caps) (hbc : x.bn ≤ x.bc) (hgc : x.gn ≤ x.gc) :
 Calls Tryz.prog 40 #[.agg x.ar] w (Tells (qOk x) w) := by
 try unfold QY.ar
 obtain ⟨w1, hW⟩ : ∃ w1, w1 = w.alloc (.cells x.ar 34) := ⟨_, rfl⟩
 have hb1 : Bl w w1 := by rw [hW]; exact bl_a _
 have hx1 := hx.below hb1
 have hs1 : w1.heap.size = w.heap.size + 1 := by rw [hW]; simp
 have HWW := iH (fun W (h : Bl w1 W) => bl_trans hb1 h)
 have HBX := iH (fun W (h : Bl w1 W) => (show Box w1 w.heap.size x.cells by rw [hW]; exact Box.new w _ 34 _).below h)
 have HCT : Hd (Ctr (w1.alloc (.cells #[.int .i64 120] 3)) w1.heap.size 120) := ⟨by simp, by simp [go_sem], by simp [go_sem]⟩
 have HGR := iH (fun W L' (hb : Bl w1 W) (hc : Ctr W w1.heap.size L') (h0 : 0 ≤ L') (h1 : L' ≤ 100000) => l4group_of x.ba x.bc x.bn x.body 1 L' w1.heap.size w1 W hx1.b.2.2 hx1.b.1 hb nR hc h0 h1 fun i hi L2 W2 hb2 hc2 h02 h12 => l4elem_any (x.body i) 1 L2 w1.heap.size w1 W2 (hx1.b.2.1 i hi) hb2 nR hc2 (by omega) (by omega) h02 h12)
 have HBD : Hd (bodyOk x → ∀ W, Bl w1 W → Cl 64 #[.slice x.ba x.bn x.bc] W (Tells (gBd x.bn x.body) W)) := fun hb0 W hb => by
  have hu := ucs_le hb0.1
  have hu2 := hb0.2
  exact bound_of x.ba x.bc x.bn x.body w1 W hx1.b.2.2 hbc hx1.b.1 hx1.b.2.1 hb (by omega) fun i hi => bound_any (x.body i) w1 (hx1.b.2.1 i hi) (hcp i hi) (by have h : uc (x.body i) ≤ sumN x.bn (fun i => uc (x.body i)) := sumN_le (f := fun i => uc (x.body i)) hi; omega)
 have HBV : Hd (bodyOk x → ∀ W, Bl w1 W → Cl 27 #[.slice none 0 0, .slice x.ba x.bn x.bc] W (AddAns w1 w1.heap.size (.slice none 0 0) (gV x.bn x.body []) W)) := fun hb0 W hb => by
  have hu := ucs_le hb0.1
  have hu2 := hb0.2
  exact bodyVars_of x.ba x.bc x.bn x.body (.slice none 0 0) [] w1.heap.size w1 W hx1.b.2.2 hx1.b.1 hx1.b.2.1 (VL.nil _ _ _) hb (by simp only [List.length_nil]; omega) hb.size nR fun i hi => bodyVars_any (x.body i) w1 w1.heap.size (hx1.b.2.1 i hi) nR
 have HSE : Hd (∀ (vb : Value) (Lb : List SL) W, Bl w1 W → VL w1 W w1.heap.size vb Lb → Lb.map SL.b = gV x.bn x.body [] → bodyOk x → Lb.length ≤ 8 → x.sn ≤ 8 → x.gn ≤ 4 → x.on ≤ 4 → Cl 65 #[.agg x.ar, vb] W (Tells (SelsP (gV x.bn x.body []) x) W)) := fun vb Lb W hb hV hE hb0 hl h1 h2 h3 => l4sels_any x vb Lb _ w1.heap.size W (hx1.below hb) (hV.rebase hb) hE (gV_name hb0.1) (by omega) h1 h2 h3 hgc
 clear hx hx1 hcp hbc hgc hb1
 go_in
 go_upto_region 1 with fail
 rw [← hW]
 clear hW hs1
 have HB2 : Hd (Bl w1 (w1.alloc (.cells #[.int .i64 120] 3))) := bl_a _
 have y3 := (HBX.o _ HB2.o).2 3 _ rfl
 have Z := HGR.o _ 120 HB2.o HCT.o (by omega) (by omega)
 go_wp2_with fail
 refine Z.mono ?_
 rintro e w3 ⟨q3, L3, rfl, hq3, hL3, hc3, hp3⟩
 have HB3 := iH (HB2.o.trans (hp3.below nR HB2.o.size))
 clear Z y3 hc3 hp3 hL3 HCT HGR
 cases q3
 · have HNO : Hd (¬ qOk x) := fun hh => by
    have h := hq3.2 ⟨hh.b.1, by have h2 := hh.b.2; omega⟩
    cases h
   clear hq3
   go_wp2
   go_ret
   exact Tells.no HNO.o (HWW.o _ HB3.o)
 have HBO := iH (show bodyOk x by have h := hq3.1 rfl; exact ⟨h.1, by have h2 := h.2; omega⟩)
 clear hq3
 have Z := HBD.o HBO.o w3 HB3.o
 have y3 := (HBX.o _ HB3.o).2 3 _ rfl
 go_wp2_with fail
 refine Z.mono ?_
 rintro e w4 ⟨q4, rfl, hq4, hb4⟩
 have HB4 := iH (HB3.o.trans (hb4.mono HB3.o.size))
 clear Z y3 hb4 HB3 HBD
 cases q4
 · have HNO : Hd (¬ qOk x) := fun hh => by
    have h := hq4.2 hh.d
    cases h
   clear hq4
   go_wp2
   go_ret
   exact Tells.no HNO.o (HWW.o _ HB4.o)
 have HGD := iH (hq4.1 rfl)
 clear hq4
 have y0 := (HBX.o _ HB4.o).2 0 _ rfl
 have y1 := (HBX.o _ HB4.o).2 1 _ rfl
 have y2 := (HBX.o _ HB4.o).2 2 _ rfl
 have y3 := (HBX.o _ HB4.o).2 3 _ rfl
 have y4 := (HBX.o _ HB4.o).2 4 _ rfl
 have y5 := (HBX.o _ HB4.o).2 5 _ rfl
 have y6 := (HBX.o _ HB4.o).2 6 _ rfl
 have y7 := (HBX.o _ HB4.o).2 7 _ rfl
 by_cases n1 : 8 < x.sn
 · have HNO : Hd (¬ qOk x) := fun hh => by have h := hh.n.1; omega
   have z1 : (8 : Int) < (x.sn : Int) := by omega
   go_wp2
   go_ret
   exact Tells.no HNO.o (HWW.o _ HB4.o)
 have z1 : ¬ (8 : Int) < (x.sn : Int) := by omega
 by_cases n2 : 4 < x.gn
 · have HNO : Hd (¬ qOk x) := fun hh => by have h := hh.n.2.1; omega
   have z2 : (4 : Int) < (x.gn : Int) := by omega
   go_wp2
   go_ret
   exact Tells.no HNO.o (HWW.o _ HB4.o)
 have z2 : ¬ (4 : Int) < (x.gn : Int) := by omega
 by_cases n3 : 4 < x.on
 · have HNO : Hd (¬ qOk x) := fun hh => by have h := hh.n.2.2.1; omega
   have z3 : (4 : Int) < (x.on : Int) := by omega
   go_wp2
   go_ret
   exact Tells.no HNO.o (HWW.o _ HB4.o)
 have z3 : ¬ (4 : Int) < (x.on : Int) := by omega
 by_cases n4 : x.lim < -1
 · have HNO : Hd (¬ qOk x) := fun hh => by have h := hh.n.2.2.2.1.1; omega
   go_wp2
   go_ret
   exact Tells.no HNO.o (HWW.o _ HB4.o)
 by_cases n5 : 999 < x.lim
 · have HNO : Hd (¬ qOk x) := fun hh => by have h := hh.n.2.2.2.1.2; omega
   go_wp2
   go_ret
   exact Tells.no HNO.o (HWW.o _ HB4.o)
 by_cases n6 : x.off < 0
 · have HNO : Hd (¬ qOk x) := fun hh => by have h := hh.n.2.2.2.2.1; omega
   go_wp2
   go_ret
   exact Tells.no HNO.o (HWW.o _ HB4.o)
 by_cases n7 : 999 < x.off
 · have HNO : Hd (¬ qOk x) := fun hh => by have h := hh.n.2.2.2.2.2; omega
   go_wp2
   go_ret
   exact Tells.no HNO.o (HWW.o _ HB4.o)
 have HNN : Hd (x.sn ≤ 8 ∧ x.gn ≤ 4 ∧ x.on ≤ 4 ∧ (-1 ≤ x.lim ∧ x.lim ≤ 999) ∧ 0 ≤ x.off ∧ x.off ≤ 999) := (show _ ∧ _ ∧ _ ∧ (_ ∧ _) ∧ _ ∧ _ by omega)
 cases hask : x.ask with
 | false =>
  rw [hask] at y0
  have HAF := iH hask
  clear hask
  have Z := HBV.o HBO.o w4 HB4.o
  go_wp2_with fail
  refine Z.mono ?_
  rintro e w5 ⟨vb, Lb, rfl, hV5, hR5, hK5⟩
  have HB5 := iH (HB4.o.trans (hK5.low (fun g hg => (by cases hg)) HB4.o.size))
  have HV5 : Hd (VL w1 w5 w1.heap.size vb Lb ∧ Lb.map SL.b = gV x.bn x.body []) := ⟨hV5, hR5⟩
  obtain ⟨va, vc, hvb, _⟩ := hV5.form
  subst hvb
  obtain ⟨nl, hnl⟩ : ∃ nl, nl = Lb.length := ⟨_, rfl⟩
  have HNL := iH hnl
  have HNG : Hd (nl = (gV x.bn x.body []).length) := (show _ = _ by rw [hnl, ← hR5, List.length_map])
  rw [← hnl] at HV5 ⊢
  clear Z hV5 hR5 hK5 hnl y0 y1 y2 y3 y4 y5 y6 y7 HBV
  by_cases h8 : nl ≤ 8
  rotate_left
  · have HNO : Hd (¬ qOk x) := fun hh => by have h := hh.v; have h2 := HNG.o; omega
    have z8 : ¬ (nl : Int) ≤ 8 := by omega
    go_wp2
    go_ret
    exact Tells.no HNO.o (HWW.o _ HB5.o)
  have z8 : (nl : Int) ≤ 8 := by omega
  have ZS := HSE.o (.slice va nl vc) Lb w5 HB5.o HV5.o.1 HV5.o.2 HBO.o (by rw [← HNL.o]; exact h8) HNN.o.1 HNN.o.2.1 HNN.o.2.2.1
  have lr : w5.rangeAt w.heap.size 0 x.cl := (HBX.o _ HB5.o).range 0 _ rfl
  go_wp2_with (with_reducible refine wpq_at ?_; refine wpu_stop 34 _ rfl ?_)
  change wpList _ _ _ _ _ _
  refine wpu_load ?hw 34 _ rfl w.heap.size 0 rfl x.cl _ lr Tryz.underlying34 rfl (by kernel_rfl) ?_
  case hw => rfl
  simp only [Act.put, sA, zA, cA]
  go_wp2_with fail
  refine ZS.mono ?_
  rintro e w6 ⟨q6, rfl, hq6, hb6⟩
  have HB6 := iH (HB5.o.trans (hb6.mono HB5.o.size))
  have HQ6 : Hd (q6 = true ↔ qOk x) := hq6.trans ⟨fun h => ⟨HBO.o, HGD.o, by rw [← HNG.o]; exact h8, HNN.o, fun h2 => (by rw [HAF.o] at h2; cases h2), fun _ => h⟩, fun h => h.s HAF.o⟩
  clear ZS lr hq6 hb6
  go_wp2
  go_ret
  exact Tells.of HQ6.o (HWW.o _ HB6.o)
 | true =>
  rw [hask] at y0
  have HAT := iH hask
  clear hask
  cases hdis : x.dis with
  | true =>
   have HNO : Hd (¬ qOk x) := fun hh => by have h := (hh.a HAT.o).1; rw [hdis] at h; cases h
   rw [hdis] at y1
   clear hdis
   go_wp2
   go_ret
   exact Tells.no HNO.o (HWW.o _ HB4.o)
  | false =>
   have HDF := iH hdis
   rw [hdis] at y1
   clear hdis
   by_cases m1 : x.sn = 0
   rotate_left
   · have HNO : Hd (¬ qOk x) := fun hh => m1 (hh.a HAT.o).2.1
     have k1 : ((x.sn : Int) == 0) = false := by simp; omega
     clear m1
     go_wp2
     go_ret
     exact Tells.no HNO.o (HWW.o _ HB4.o)
   have HM1 := iH m1
   have k1 : ((x.sn : Int) == 0) = true := by simp; omega
   clear m1
   by_cases m2 : x.gn = 0
   rotate_left
   · have HNO : Hd (¬ qOk x) := fun hh => m2 (hh.a HAT.o).2.2.1
     have k2 : ((x.gn : Int) == 0) = false := by simp; omega
     clear m2
     go_wp2
     go_ret
     exact Tells.no HNO.o (HWW.o _ HB4.o)
   have HM2 := iH m2
   have k2 : ((x.gn : Int) == 0) = true := by simp; omega
   clear m2
   by_cases m3 : x.on = 0
   rotate_left
   · have HNO : Hd (¬ qOk x) := fun hh => m3 (hh.a HAT.o).2.2.2.1
     have k3 : ((x.on : Int) == 0) = false := by simp; omega
     clear m3
     go_wp2
     go_ret
     exact Tells.no HNO.o (HWW.o _ HB4.o)
   have HM3 := iH m3
   have k3 : ((x.on : Int) == 0) = true := by simp; omega
   clear m3
   by_cases m4 : x.lim = -1
   rotate_left
   · have HNO : Hd (¬ qOk x) := fun hh => m4 (hh.a HAT.o).2.2.2.2.1
     have k4 : (x.lim == -1) = false := by simp; omega
     clear m4
     go_wp2
     go_ret
     exact Tells.no HNO.o (HWW.o _ HB4.o)
   have HM4 := iH m4
   have k4 : (x.lim == -1) = true := by simp; omega
   clear m4
   by_cases m5 : x.off = 0
   rotate_left
   · have HNO : Hd (¬ qOk x) := fun hh => m5 (hh.a HAT.o).2.2.2.2.2
     have k5 : (x.off == 0) = false := by simp; omega
     clear m5
     go_wp2
     go_ret
     exact Tells.no HNO.o (HWW.o _ HB4.o)
   have HM5 := iH m5
   have k5 : (x.off == 0) = true := by simp; omega
   clear m5
   have Z := HBV.o HBO.o w4 HB4.o
   go_wp2_with fail
   refine Z.mono ?_
   rintro e w5 ⟨vb, Lb, rfl, hV5, hR5, hK5⟩
   have HB5 := iH (HB4.o.trans (hK5.low (fun g hg => (by cases hg)) HB4.o.size))
   obtain ⟨va, vc, hvb, _⟩ := hV5.form
   subst hvb
   obtain ⟨nl, hnl⟩ : ∃ nl, nl = Lb.length := ⟨_, rfl⟩
   have HNG : Hd (nl = (gV x.bn x.body []).length) := (show _ = _ by rw [hnl, ← hR5, List.length_map])
   rw [← hnl]
   clear Z hV5 hR5 hK5 hnl y0 y1 y2 y3 y4 y5 y6 y7 HBV
   by_cases h8 : nl ≤ 8
   rotate_left
   · have HNO : Hd (¬ qOk x) := fun hh => by have h := hh.v; have h2 := HNG.o; omega
     have z8 : ¬ (nl : Int) ≤ 8 := by omega
     go_wp2
     go_ret
     refine ⟨_, rfl, ⟨fun h => (by simp at h; omega), fun h => absurd h HNO.o⟩, HWW.o _ HB5.o⟩
   have z8 : (nl : Int) ≤ 8 := by omega
   have HYES : Hd (qOk x) := ⟨HBO.o, HGD.o, by rw [← HNG.o]; exact h8, HNN.o, fun _ => ⟨HDF.o, HM1.o, HM2.o, HM3.o, HM4.o, HM5.o⟩, fun h => (by rw [HAT.o] at h; cases h)⟩
   go_wp2
   go_ret
   exact Tells.yes HYES.o (HWW.o _ HB5.o)
theorem spares_any (g : Nat) (L n : Int) (w : World) (hc : Ctr w g L) (h0 : -100000 ≤ L) (h1 : L ≤ 100000) (h2 : 0 ≤ n) (h3 : n ≤ 1048576) :
 Calls Tryz.prog 136 #[.pointer (some ⟨g, 0, none⟩), .int .i64 n] w fun e w' => e = .returned (.bool (decide (0 ≤ L - n))) ∧ Ctr w' g (L - n) ∧ Past g w w' := by
 have HC : Hd (Ctr (w.setCell ⟨g, 0, none⟩ (.int .i64 (L - n))) g (L - n) ∧ Past g w (w.setCell ⟨g, 0, none⟩ (.int .i64 (L - n)))) := ⟨hc.set _, (Past.refl g w).set 0 _⟩
 have c0 := hc.cell
 have f0 := hc.fr
 have c1 : (w.setCell ⟨g, 0, none⟩ (.int .i64 (L - n))).cell? ⟨g, 0, none⟩ = some (.int .i64 (L - n)) := (hc.set _).cell
 have hwr : IntKind.i64.wrap (L - n) = L - n := by rw [IntKind.wrap_i64]; omega
 clear hc
 go_in
 go_wp2
 go_ret
 exact ⟨by simp, HC.o⟩
theorem isTooDeep_any (p q : Int) (w : World) : Calls Tryz.prog 137 #[.agg #[.int .i64 p, .int .i64 q]] w (Tells (q < p) w) := by
 go_in
 go_wp2
 go_ret
 exact Tells.of (by simp) (bl_a _)
def AdAns (P : Prop) (g : Nat) (L : Int) (w : World) (e : Ending) (w' : World) : Prop := ∃ q : Bool, e = .returned (.bool q) ∧ (q = true ↔ P) ∧ Ctr w' g L ∧ Past g w w'
theorem admits_any (g : Nat) (L p q : Int) (w : World) (hc : Ctr w g L) (h0 : 0 ≤ L) (h1 : L ≤ 100000) :
 Calls Tryz.prog 100 #[.pointer (some ⟨g, 0, none⟩), .agg #[.int .i64 p, .int .i64 q]] w (AdAns (1 ≤ L ∧ p ≤ q) g (L - 1) w) := by
 have SP := fun o => spares_any g L 1 (w.alloc o) (hc.below (bl_a o)) (by omega) h1 (by omega) (by omega)
 have hg := hc.lt
 clear hc
 go_in
 go_wp2_with fail
 refine (SP _).mono ?_
 rintro e w1 ⟨rfl, hc1, hp1⟩
 have HC1 := iH hc1
 have HP1 := iH ((Past.of_below (bl_a _)).trans hp1)
 have x0 : w1.cell? ⟨w.heap.size, 0, none⟩ = some (.int .i64 p) := (hp1.cell (p := ⟨w.heap.size, 0, none⟩) (by simp) (by show w.heap.size ≠ g; omega)).trans (by simp [go_sem])
 have x1 : w1.cell? ⟨w.heap.size, 1, none⟩ = some (.int .i64 q) := (hp1.cell (p := ⟨w.heap.size, 1, none⟩) (by simp) (by show w.heap.size ≠ g; omega)).trans (by simp [go_sem])
 clear SP hc1 hp1
 by_cases hL : 0 ≤ L - 1
 · have hLd : decide (0 ≤ L - 1) = true := by simp; omega
   have TD := isTooDeep_any p q w1
   rw [hLd]
   go_wp2_with fail
   refine TD.mono ?_
   rintro e w2 ⟨q2, rfl, hq2, hb2⟩
   have HC2 := iH (HC1.o.below hb2)
   have HP2 := iH (HP1.o.trans (Past.of_below hb2))
   have HE : Hd ((!q2) = true ↔ (1 ≤ L ∧ p ≤ q)) := by
    show (_ ↔ _)
    cases q2 with
    | true => exact ⟨fun h => (by cases h), fun h => by have := hq2.1 rfl; omega⟩
    | false => exact ⟨fun _ => ⟨by omega, by
     apply Classical.byContradiction
     intro hn
     have := hq2.2 (by omega)
     cases this⟩, fun _ => rfl⟩
   clear TD hq2 hb2 x0 x1
   go_wp2
   go_ret
   exact ⟨_, rfl, HE.o, HC2.o, HP2.o⟩
 have hLd : decide (0 ≤ L - 1) = false := by simp; omega
 rw [hLd]
 go_wp2
 go_ret
 exact ⟨false, rfl, ⟨fun h => (by cases h), fun h => absurd h.1 (by omega)⟩, HC1.o, HP1.o⟩
theorem placeBelow_any (p q : Int) (w : World) (h0 : 0 ≤ p) (h1 : p ≤ 100000) : Calls Tryz.prog 104 #[.agg #[.int .i64 p, .int .i64 q]] w fun e w' => e = .returned (.agg #[.int .i64 (p + 1), .int .i64 q]) ∧ Bl w w' := by
 go_in
 go_wp2_with fail
 refine bodyPost_ret (v := .agg #[.int .i64 (p + 1), .int .i64 q]) (by simp [results, Tryz.results104, go_sem]) rfl ?_
 exact ⟨rfl, bl_alloc (bl_a _) _⟩
theorem isZeroT_any (x : TB) (w : World) (h : BsF 0 w x.sl) :
 Calls Tryz.prog 225 #[.agg #[.int .i64 x.t.k, .slice x.t.a x.t.len x.t.cap, .int .i64 x.t.n, .int .i64 x.t.s]] w (Tells (zeroT x.td) w) := by
 have HL : Hd (x.b = [] ↔ x.t.len = 0) := nil_len h.1.1
 clear h
 by_cases h0 : x.t.k = 0
 rotate_left
 · go_in
   go_wp2
   go_ret
   exact Tells.no (P := zeroT x.td) (fun hp => h0 hp.1) (bl_a _)
 by_cases h1 : x.t.len = 0
 rotate_left
 · go_in
   go_wp2
   go_ret
   exact Tells.no (P := zeroT x.td) (fun hp => h1 (HL.o.1 hp.2.1)) (bl_a _)
 by_cases h2 : x.t.n = 0
 rotate_left
 · go_in
   go_wp2
   go_ret
   exact Tells.no (P := zeroT x.td) (fun hp => h2 hp.2.2.1) (bl_a _)
 by_cases h3 : x.t.s = 0
 rotate_left
 · have h3' : (x.t.s == 0) = false := by simp [h3]
   go_in
   go_wp2
   go_ret
   exact Tells.no (P := zeroT x.td) (fun hp => h3 hp.2.2.2) (bl_a _)
 have HP : Hd (zeroT x.td) := ⟨h0, HL.o.2 h1, h2, h3⟩
 go_in
 go_wp2
 go_ret
 exact Tells.yes HP.o (bl_a _)
theorem isBare_any (d : EN) (w : World) (hv : BsF 0 w d.v) (ht : BsF 0 w d.t.sl) : Calls Tryz.prog 207 #[.agg d.ar] w (Tells (d.op = 0 ∧ d.v.b = [] ∧ zeroT d.t.td) w) := by
 try unfold EN.ar
 have HL := iH (nil_len hv.1.1)
 have HZ := iH (fun W (hb : Bl w W) => isZeroT_any d.t W (ht.upper (uB hb)))
 obtain ⟨P, hP⟩ : ∃ P, P = (d.op = 0 ∧ d.v.b = [] ∧ zeroT d.t.td) := ⟨_, rfl⟩
 have HP := iH (show (P ↔ _) by rw [hP])
 rw [← hP]
 clear hv ht hP
 by_cases h1 : d.op = 0
 rotate_left
 · go_in
   go_wp2
   go_ret
   exact Tells.no (fun hp => h1 (HP.o.1 hp).1) (bl_a _)
 by_cases h2 : d.v.len = 0
 rotate_left
 · go_in
   go_wp2
   go_ret
   exact Tells.no (fun hp => h2 (HL.o.1 (HP.o.1 hp).2.1)) (bl_a _)
 have H3 : Hd (d.op = 0 ∧ d.v.b = []) := ⟨h1, HL.o.2 h2⟩
 have Z := HZ.o
 go_in
 go_wp2_with fail
 refine (Z _ (bl_a _)).mono ?_
 rintro e w1 ⟨q1, rfl, hq1, hb1⟩
 have HQ := iH (show (q1 = true ↔ P) from hq1.trans ⟨fun h => HP.o.2 ⟨H3.o.1, H3.o.2, h⟩, fun h => (HP.o.1 h).2.2⟩)
 have HB := iH (bl_trans (bl_a _) hb1)
 clear Z hq1 hb1
 go_wp2
 go_ret
 exact Tells.of HQ.o HB.o
theorem isZeroE_any (e : ET) (w : World) (h : e.lies 0 w) : Calls Tryz.prog 205 #[.agg #[.int .i64 e.d.k, .int .i64 e.d.op, .slice e.d.v.a e.d.v.len e.d.v.cap, .int .i64 e.d.t.t.k, .slice e.d.t.t.a e.d.t.t.len e.d.t.t.cap, .int .i64 e.d.t.t.n, .int .i64 e.d.t.t.s, .slice e.d.ka e.d.n e.d.kc]] w (Tells (zeroE e) w) := by
 cases e with
 | nil => exact False.elim h
 | mk d kid =>
 obtain ⟨hv, ht, _⟩ := h
 show Calls Tryz.prog 205 #[.agg #[.int .i64 d.k, .int .i64 d.op, .slice d.v.a d.v.len d.v.cap, .int .i64 d.t.t.k, .slice d.t.t.a d.t.t.len d.t.t.cap, .int .i64 d.t.t.n, .int .i64 d.t.t.s, .slice d.ka d.n d.kc]] w (Tells (zeroE (.mk d kid)) w)
 have HZ : Hd (∀ W, Below w.heap.size w W → Calls Tryz.prog 207 #[.agg #[.int .i64 d.k, .int .i64 d.op, .slice d.v.a d.v.len d.v.cap, .int .i64 d.t.t.k, .slice d.t.t.a d.t.t.len d.t.t.cap, .int .i64 d.t.t.n, .int .i64 d.t.t.s, .slice d.ka d.n d.kc]] W (Tells (d.op = 0 ∧ d.v.b = [] ∧ zeroT d.t.td) W)) := fun W hb => isBare_any d W (hv.upper (Upper.of_below hb)) (ht.upper (Upper.of_below hb))
 obtain ⟨P, hP⟩ : ∃ P, P = zeroE (.mk d kid) := ⟨_, rfl⟩
 have HP : Hd (P ↔ (d.k = 0 ∧ d.op = 0 ∧ d.v.b = [] ∧ zeroT d.t.td ∧ d.n = 0)) := (show (P ↔ _) by rw [hP]; exact Iff.rfl)
 rw [← hP]
 clear hv ht hP
 by_cases h0 : d.k = 0
 rotate_left
 · go_in
   go_wp2
   go_ret
   exact Tells.no (fun hp => h0 (HP.o.1 hp).1) (bl_a _)
 by_cases h5 : d.n = 0
 rotate_left
 · go_in
   go_wp2
   go_ret
   exact Tells.no (fun hp => h5 (HP.o.1 hp).2.2.2.2) (bl_a _)
 have H3 : Hd (d.k = 0 ∧ d.n = 0) := ⟨h0, h5⟩
 have Z := HZ.o
 rw [h0, h5] at Z ⊢
 clear HZ h0 h5
 go_in
 go_wp2_with fail
 refine (Z _ (bl_a _)).mono ?_
 rintro e w1 ⟨q1, rfl, hq1, hb1⟩
 have HQ := iH (show (q1 = true ↔ P) from hq1.trans ⟨fun h => HP.o.2 ⟨H3.o.1, h.1, h.2.1, h.2.2, H3.o.2⟩, fun h => ⟨(HP.o.1 h).2.1, (HP.o.1 h).2.2.1, (HP.o.1 h).2.2.2.1⟩⟩)
 have HB := iH (bl_trans (bl_a _) hb1)
 clear Z hq1 hb1
 go_wp2
 go_ret
 exact Tells.of HQ.o HB.o
def kLo (k : Int) : Int := if k = 2 then 2 else if k = 3 ∨ k = 7 then 1 else if k = 5 then 3 else if k = 6 then 1 else 0
def kHi (k : Int) : Int := if k = 2 then 2 else if k = 3 ∨ k = 7 then 1 else if k = 5 then 3 else if k = 6 then 4 else 0
theorem kidCount_any (k : Int) (w : World) : Calls Tryz.prog 206 #[.int .i64 k] w fun e w' => e = .returned (.tuple #[.int .i64 (kLo k), .int .i64 (kHi k)]) ∧ w' = w := by
 go_in
 go_wp2
 all_goals go_ret2
 all_goals refine ⟨?_, rfl⟩
 all_goals (unfold kLo kHi; simp_all <;> omega)
def BareN (d : EN) : Prop := d.op = 0 ∧ d.v.b = [] ∧ zeroT d.t.td
theorem BareN.mk {d : EN} (h1 : d.op = 0) (h2 : d.v.b = []) (h3 : zeroT d.t.td) : BareN d := And.intro h1 (And.intro h2 h3)
theorem wpl_at {P : Program} {ops : Array Oper} {rest : List Oper} {op : Oper} {a : Act} {w : World} {Q : Exit → Act → World → Prop} (h : wpList P ops Q (op :: rest) a w) : wpList P ops Q (op :: rest) a w := h
theorem zeroT0 : zeroT (TB.td ⟨⟨0, none, 0, 0, 0, 0⟩, []⟩) := by unfold zeroT; exact ⟨rfl, rfl, rfl, rfl⟩
theorem hasOwnE_0 (d : EN) (w : World) (hkv : d.k = 0) (hv : BsF 0 w d.v) (ht : BsF 0 w d.t.sl) (_hf : d.t.t.fits) (hn : d.n ≤ 1048576) : Calls Tryz.prog 142 #[.agg d.ar] w (Tells (nodeOk d) w) := by
 try unfold EN.ar
 have KC := fun W => kidCount_any 0 W
 have e1 : kLo 0 = 0 := by decide
 have e2 : kHi 0 = 0 := by decide
 rw [e1, e2] at KC
 clear e1 e2
 have WI := fun W => within_any (d.n : Int) 0 0 W
 have HIB : Hd (∀ W, Bl w W → Cl 207 #[.agg #[.int .i64 0, .int .i64 d.op, .slice none 0 0, .int .i64 d.t.t.k, .slice d.t.t.a d.t.t.len d.t.t.cap, .int .i64 d.t.t.n, .int .i64 d.t.t.s, .slice d.ka d.n d.kc]] W (Tells (BareN ⟨0, d.op, ⟨none, 0, 0, []⟩, d.t, d.ka, d.kc, d.n⟩) W)) := fun W hb => isBare_any _ W (bs_nil W) (ht.upper (uB hb))
 have HKO : Hd (kOk d.k d.n ↔ ((0 : Int) ≤ (d.n : Int) ∧ (d.n : Int) ≤ 0)) := (show (_ ↔ _) by rw [hkv]; unfold kOk; omega)
 have HKV := iH hkv
 have HIN := iH (fun W (hb : Bl w W) => isName_any d.v.a d.v.len d.v.cap d.v.b W (hv.upper (uB hb)).1)
 rw [hkv]
 clear hv ht hkv
 go_in
 go_wp2_with fail
 refine (KC _).mono ?_
 rintro e w1 ⟨rfl, rfl⟩
 clear KC
 go_wp2_with fail
 refine (WI _).mono ?_
 rintro e w1 ⟨rfl, rfl⟩
 clear WI
 by_cases hkn : (0 : Int) ≤ (d.n : Int) ∧ (d.n : Int) ≤ 0
 rotate_left
 · have hw2 : (decide ((0 : Int) ≤ (d.n : Int)) && decide ((d.n : Int) ≤ 0)) = false := by simp; omega
   have HNO : Hd (¬ nodeOk d) := fun hh => hkn (HKO.o.1 hh.1)
   rw [hw2]
   clear hkn hw2
   go_wp2
   go_ret
   exact Tells.no HNO.o (bl_a _)
 have hw2 : (decide ((0 : Int) ≤ (d.n : Int)) && decide ((d.n : Int) ≤ 0)) = true := by simp; omega
 have HK := iH (HKO.o.2 hkn)
 rw [hw2]
 clear hkn hw2 HKO
 have IN := HIN.o
 cases hnm : nameOk d.v.b with
 | false =>
  rw [hnm] at IN
  have HNO : Hd (¬ nodeOk d) := fun hh => by have h := hh.2.1 (by rw [HKV.o]; simp); rw [hnm] at h; cases h
  clear hnm
  go_wp2_with fail
  refine (IN _ (bl_alloc (bl_a _) _)).mono ?_
  rintro e w3 ⟨rfl, rfl⟩
  clear IN
  go_wp2
  go_ret
  exact Tells.no HNO.o (bl_alloc (bl_a _) _)
 | true =>
  rw [hnm] at IN
  have HNM := iH hnm
  clear hnm
  go_wp2_with fail
  refine (IN _ (bl_alloc (bl_a _) _)).mono ?_
  rintro e w3 ⟨rfl, rfl⟩
  clear IN
  go_wp2_with fail
  refine (HIB.o _ (bl_alloc (bl_a _) _)).mono ?_
  rintro e w9 ⟨q9, rfl, hq9, hb9⟩
  have HE := iH (show (q9 = true ↔ nodeOk d) from hq9.trans ⟨fun h => ⟨HK.o, fun _ => HNM.o, fun h2 => absurd (by rw [HKV.o]; simp) h2, fun h2 => absurd h2 (by rw [HKV.o]; decide), fun _ => h.2.2, ⟨by rw [h.1]; decide, by rw [h.1]; decide⟩, fun _ => h.1⟩, fun h => BareN.mk (h.2.2.2.2.2.2 (by rw [HKV.o]; decide)) rfl (h.2.2.2.2.1 (by rw [HKV.o]; decide))⟩)
  have HB9 := iH (bl_trans (bl_alloc (bl_a _) _) hb9)
  clear hq9 hb9
  go_wp2
  go_ret
  exact Tells.of HE.o HB9.o
theorem hasOwnE_1 (d : EN) (w : World) (hkv : d.k = 1) (hv : BsF 0 w d.v) (ht : BsF 0 w d.t.sl) (hf : d.t.t.fits) (hn : d.n ≤ 1048576) : Calls Tryz.prog 142 #[.agg d.ar] w (Tells (nodeOk d) w) := by
 try unfold EN.ar
 have KC := fun W => kidCount_any 1 W
 have e1 : kLo 1 = 0 := by decide
 have e2 : kHi 1 = 0 := by decide
 rw [e1, e2] at KC
 clear e1 e2
 have WI := fun W => within_any (d.n : Int) 0 0 W
 have HIB : Hd (∀ W, Bl w W → Cl 207 #[.agg #[.int .i64 1, .int .i64 d.op, .slice d.v.a d.v.len d.v.cap, .int .i64 0, .slice none 0 0, .int .i64 0, .int .i64 0, .slice d.ka d.n d.kc]] W (Tells (BareN ⟨1, d.op, d.v, ⟨⟨0, none, 0, 0, 0, 0⟩, []⟩, d.ka, d.kc, d.n⟩) W)) := fun W hb => isBare_any _ W (hv.upper (uB hb)) (bs_nil W)
 have HKO : Hd (kOk d.k d.n ↔ ((0 : Int) ≤ (d.n : Int) ∧ (d.n : Int) ≤ 0)) := (show (_ ↔ _) by rw [hkv]; unfold kOk; omega)
 have HKV := iH hkv
 have HTO := iH (fun W (hb : Bl w W) => implTermOk_any d.t.t.k d.t.t.n d.t.t.s d.t.t.a d.t.t.len d.t.t.cap d.t.b W (ht.upper (uB hb)).1 hf.1 hf.2.1 hf.2.2.1 hf.2.2.2)
 rw [hkv]
 clear hv ht hf hkv
 go_in
 go_wp2_with fail
 refine (KC _).mono ?_
 rintro e w1 ⟨rfl, rfl⟩
 clear KC
 go_wp2_with fail
 refine (WI _).mono ?_
 rintro e w1 ⟨rfl, rfl⟩
 clear WI
 by_cases hkn : (0 : Int) ≤ (d.n : Int) ∧ (d.n : Int) ≤ 0
 rotate_left
 · have hw2 : (decide ((0 : Int) ≤ (d.n : Int)) && decide ((d.n : Int) ≤ 0)) = false := by simp; omega
   have HNO : Hd (¬ nodeOk d) := fun hh => hkn (HKO.o.1 hh.1)
   rw [hw2]
   clear hkn hw2
   go_wp2
   go_ret
   exact Tells.no HNO.o (bl_a _)
 have hw2 : (decide ((0 : Int) ≤ (d.n : Int)) && decide ((d.n : Int) ≤ 0)) = true := by simp; omega
 have HK := iH (HKO.o.2 hkn)
 rw [hw2]
 clear hkn hw2 HKO
 have TO := HTO.o
 cases hnm : termOk d.t.t.k d.t.b d.t.t.n d.t.t.s with
 | false =>
  rw [hnm] at TO
  have HNO : Hd (¬ nodeOk d) := fun hh => by have h := hh.2.2.2.1 HKV.o; have h2 : termOk d.t.t.k d.t.b d.t.t.n d.t.t.s = true := h; rw [hnm] at h2; cases h2
  clear hnm
  go_wp2_with fail
  refine (TO _ (bl_alloc (bl_a _) _)).mono ?_
  rintro e w3 ⟨rfl, hb3⟩
  have HB3 := iH (bl_trans (bl_alloc (bl_a _) _) hb3)
  have r3 := show OB _ _ _ by have h := (OB.new _ _ 100).below hb3; simpa using h
  have HBf : Hd (Bl w (w3.setCells (w.heap.size + 1) 3 [.int .i64 0, .slice none 0 0, .int .i64 0, .int .i64 0])) := below_sets _ (Nat.le_succ _) _ _ _ HB3.o
  have st0 := r3.there 3 4 (by simp)
  have one1 := all_oneCell_toArray (cs := [.int .i64 0, .slice none 0 0, .int .i64 0, .int .i64 0]) (by simp [Value.oneCell'])
  clear TO hb3 r3
  go_upto_region 18 with (with_reducible refine wpl_at ?_; refine wpList_store_mid rfl 93 _ _ rfl _ _ _ rfl rfl st0 (by kernel_rfl) one1 ?_; try simp only [Act.put])
  generalize w3.setCells (w.heap.size + 1) 3 [.int .i64 0, .slice none 0 0, .int .i64 0, .int .i64 0] = W4 at *
  clear st0 one1
  go_wp2
  go_ret
  exact Tells.no HNO.o HBf.o
 | true =>
  rw [hnm] at TO
  have HNM : Hd (d.t.td.ok = true) := hnm
  clear hnm
  go_wp2_with fail
  refine (TO _ (bl_alloc (bl_a _) _)).mono ?_
  rintro e w3 ⟨rfl, hb3⟩
  have HB3 := iH (bl_trans (bl_alloc (bl_a _) _) hb3)
  have r3 := show OB _ _ _ by have h := (OB.new _ _ 100).below hb3; simpa using h
  have HBf : Hd (Bl w (w3.setCells (w.heap.size + 1) 3 [.int .i64 0, .slice none 0 0, .int .i64 0, .int .i64 0])) := below_sets _ (Nat.le_succ _) _ _ _ HB3.o
  have HR4 : Hd (Box (w3.setCells (w.heap.size + 1) 3 [.int .i64 0, .slice none 0 0, .int .i64 0, .int .i64 0]) (w.heap.size + 1) [.int .i64 1, .int .i64 d.op, .slice d.v.a d.v.len d.v.cap, .int .i64 0, .slice none 0 0, .int .i64 0, .int .i64 0, .slice d.ka d.n d.kc]) := (r3.sets _ 3).box
  have st0 := r3.there 3 4 (by simp)
  have one1 := all_oneCell_toArray (cs := [.int .i64 0, .slice none 0 0, .int .i64 0, .int .i64 0]) (by simp [Value.oneCell'])
  clear TO hb3 r3
  go_upto_region 18 with (with_reducible refine wpl_at ?_; refine wpList_store_mid rfl 93 _ _ rfl _ _ _ rfl rfl st0 (by kernel_rfl) one1 ?_; try simp only [Act.put])
  generalize w3.setCells (w.heap.size + 1) 3 [.int .i64 0, .slice none 0 0, .int .i64 0, .int .i64 0] = W4 at *
  clear st0 one1
  have s0 := HR4.o.2 0 _ rfl
  have s1 := HR4.o.2 1 _ rfl
  have s2 := HR4.o.2 2 _ rfl
  have s3 := HR4.o.2 3 _ rfl
  have s4 := HR4.o.2 4 _ rfl
  have s5 := HR4.o.2 5 _ rfl
  have s6 := HR4.o.2 6 _ rfl
  have s7 := HR4.o.2 7 _ rfl
  go_wp2_with fail
  refine (HIB.o _ HBf.o).mono ?_
  rintro e w9 ⟨q9, rfl, hq9, hb9⟩
  have HE := iH (show (q9 = true ↔ nodeOk d) from hq9.trans ⟨fun h => ⟨HK.o, fun h2 => absurd h2 (by rw [HKV.o]; decide), fun _ => h.2.1, fun _ => HNM.o, fun h2 => absurd HKV.o h2, ⟨by rw [h.1]; decide, by rw [h.1]; decide⟩, fun _ => h.1⟩, fun h => BareN.mk (h.2.2.2.2.2.2 (by rw [HKV.o]; decide)) (h.2.2.1 (by rw [HKV.o]; decide)) zeroT0⟩)
  have HB9 := iH (bl_trans HBf.o hb9)
  clear hq9 hb9
  go_wp2
  go_ret
  exact Tells.of HE.o HB9.o
end Go.Proofs.YthljoojcpbignaaGreatDoor
