/- Texts put together: TvW TvX TvY TvZ TxA DrwE TrmA TxB -/
import Derived.Test.YtidhcbjhggdncaaMk19
import Derived.Test.YtidhcbjhggdncaaMk15
import Derived.Test.YtidhcbjhggdncaaMk02
import Derived.Deep.RegionHeld3
/- TvW -/
namespace Go.Proofs.Ytidhcbjhggdncaa
open Go.RowKit Go.Deep
set_option maxRecDepth 100000

/-- An expression that may be, whatever its depth and size. -/
def okS : ET → Prop
  | .nil => False
  | .mk d kid => nodeOk d ∧ ∀ i, i < d.n → okS (kid i)
theorem eOk_iff (e : ET) : ∀ (n : Nat) (p : Int), lvE e n → p + n ≤ 121 → (eOk 120 e p ↔ okS e) := by
  induction e with
  | nil => exact fun _ _ h => False.elim h
  | mk d kid ih =>
    intro n p hl hp
    obtain ⟨h0, _, _, hk⟩ := hl
    constructor
    · rintro ⟨_, h2, h3⟩
      exact ⟨h2, fun i hi => (ih i (n - 1) (p + 1) (hk i hi) (by omega)).1 (h3 i hi)⟩
    · rintro ⟨h2, h3⟩
      exact ⟨by omega, h2, fun i hi => (ih i (n - 1) (p + 1) (hk i hi) (by omega)).2 (h3 i hi)⟩
def szL : Nat → Nat
  | 0 => 0
  | n + 1 => 1 + 5 * szL n
theorem sumN_bound {n m : Nat} {f : Nat → Nat} (h : ∀ i, i < n → f i ≤ m) : sumN n f ≤ n * m := by
  induction n with
  | zero => exact Nat.zero_le _
  | succ n ih =>
    have h1 := ih fun i hi => h i (by omega)
    have h2 := h n (by omega)
    show sumN n f + f n ≤ (n + 1) * m
    rw [Nat.succ_mul]
    omega
theorem esz_lv (e : ET) : ∀ n, lvE e n → esz e ≤ szL n := by
  induction e with
  | nil => exact fun _ h => False.elim h
  | mk d kid ih =>
    intro n hl
    obtain ⟨h0, h5, _, hk⟩ := hl
    obtain ⟨m, rfl⟩ : ∃ m, n = m + 1 := ⟨n - 1, by omega⟩
    have h1 : sumN d.n (fun i => esz (kid i)) ≤ d.n * szL m := sumN_bound fun i hi => ih i m (hk i hi)
    have h2 : d.n * szL m ≤ 5 * szL m := Nat.mul_le_mul_right _ h5
    show 1 + sumN d.n (fun i => esz (kid i)) ≤ 1 + 5 * szL m
    omega
/-- Names that are drawn, each once. -/
def NmS (l : List (List Int)) : Prop := (∀ v ∈ l, v ∈ NM) ∧ l.Nodup
theorem addV_nm {l : List (List Int)} {v : List Int} (h : NmS l) (hv : v = [] ∨ v ∈ NM) : NmS (addV l v) := by
  unfold addV
  split
  · exact h
  · rename_i hn
    refine ⟨fun x hx => ?_, ?_⟩
    · rcases List.mem_append.1 hx with hx | hx
      · exact h.1 x hx
      · rw [List.mem_singleton.1 hx]
        rcases hv with rfl | hv
        · exact absurd (.inl rfl) hn
        · exact hv
    · rw [List.nodup_append]
      refine ⟨h.2, by simp, fun a ha b hb e => hn ?_⟩
      rw [List.mem_singleton.1 hb] at e
      subst e
      exact .inr ha
theorem foldN_keep {α : Type} {P : α → Prop} {n : Nat} {f : Nat → α → α} {a : α} (hf : ∀ i, i < n → ∀ x, P x → P (f i x)) (ha : P a) : P (foldN n f a) := by
  induction n with
  | zero => exact ha
  | succ n ih => exact hf n (by omega) _ (ih fun i hi => hf i (by omega))
theorem eV_nm (e : ET) : ∀ (n : Nat) (l : List (List Int)), lvE e n → NmS l → NmS (eV e l) := by
  induction e with
  | nil => exact fun _ _ h => False.elim h
  | mk d kid ih =>
    intro n l hl h
    obtain ⟨_, _, hv, hk⟩ := hl
    exact foldN_keep (fun i hi x hx => ih i (n - 1) x (hk i hi) hx) (addV_nm h hv)
theorem nodup_len : ∀ (m l : List (List Int)), l.Nodup → (∀ x ∈ l, x ∈ m) → l.length ≤ m.length
  | [], l, _, h => by
    cases l with
    | nil => exact Nat.le_refl _
    | cons a r => exact absurd (h a List.mem_cons_self) (by simp)
  | a :: m, l, hl, h => by
    have ih := nodup_len m (l.erase a) (hl.erase a) fun x hx => by
      have h1 := (hl.mem_erase_iff).1 hx
      rcases List.mem_cons.1 (h x h1.2) with e | e
      · exact absurd e h1.1
      · exact e
    rw [List.length_erase] at ih
    rw [List.length_cons]
    split at ih <;> omega
theorem NmS.len {l : List (List Int)} (h : NmS l) : l.length ≤ 4 := nodup_len NM l h.2 h.1
theorem tru_ans (t : Int) (h : t = 0 ∨ t = 1 ∨ t = 2) : tru (ans t) = t := by rcases h with rfl | rfl | rfl <;> rfl
end Go.Proofs.Ytidhcbjhggdncaa

/- TvX -/
namespace Go.Proofs.Ytidhcbjhggdncaa
open Go.RowKit Go.Deep
set_option maxRecDepth 100000

/-- An operation over kids. -/
def nd (k op : Int) (L : List ET) (ka : Option Addr) (kc : Nat) : ET := .mk ⟨k, op, ⟨none, 0, 0, []⟩, ⟨⟨0, none, 0, 0, 0, 0⟩, []⟩, ka, kc, L.length⟩ (fun i => L[i]?.getD .nil)
theorem zT0 : zeroT (⟨⟨0, none, 0, 0, 0, 0⟩, []⟩ : TB).td := ⟨rfl, rfl, rfl, rfl⟩
theorem okS_one {k : Int} {a : ET} {ka : Option Addr} {kc : Nat} (hk : k = 3 ∨ k = 7) : okS (nd k 0 [a] ka kc) ↔ okS a := by
  constructor
  · rintro ⟨_, h⟩
    exact h 0 (show 0 < 1 by omega)
  · intro h
    refine ⟨⟨.inr (.inl ⟨hk, rfl⟩), fun h1 => ?_, fun _ => rfl, fun h1 => ?_, fun _ => zT0, ⟨by show (0 : Int) ≤ 0; omega, by show (0 : Int) ≤ 7; omega⟩, fun _ => rfl⟩, fun i hi => ?_⟩
    · have h2 : k = 0 ∨ k = 4 := h1
      omega
    · have h2 : k = 1 := h1
      omega
    · have h2 : i < 1 := hi
      have e : i = 0 := by omega
      subst e
      exact h
theorem okS_op {op : Int} {a b : ET} {ka : Option Addr} {kc : Nat} (h0 : 0 ≤ op) (h7 : op ≤ 7) : okS (nd 2 op [a, b] ka kc) ↔ okS a ∧ okS b := by
  constructor
  · rintro ⟨_, h⟩
    exact ⟨h 0 (show 0 < 2 by omega), h 1 (show 1 < 2 by omega)⟩
  · rintro ⟨ha, hb⟩
    refine ⟨⟨.inr (.inr (.inl ⟨rfl, rfl⟩)), fun h1 => ?_, fun _ => rfl, fun h1 => ?_, fun _ => zT0, ⟨h0, h7⟩, fun h1 => absurd rfl h1⟩, fun i hi => ?_⟩
    · have h2 : (2 : Int) = 0 ∨ (2 : Int) = 4 := h1
      omega
    · have h2 : (2 : Int) = 1 := h1
      omega
    · have h2 : i < 2 := hi
      rcases (by omega : i = 0 ∨ i = 1) with rfl | rfl
      · exact ha
      · exact hb
theorem okS_coal {a b : ET} {ka : Option Addr} {kc : Nat} : okS (nd 6 0 [a, b] ka kc) ↔ okS a ∧ okS b := by
  constructor
  · rintro ⟨_, h⟩
    exact ⟨h 0 (show 0 < 2 by omega), h 1 (show 1 < 2 by omega)⟩
  · rintro ⟨ha, hb⟩
    refine ⟨⟨.inr (.inr (.inr (.inr ⟨rfl, by show 1 ≤ 2; omega, by show 2 ≤ 4; omega⟩))), fun h1 => ?_, fun _ => rfl, fun h1 => ?_, fun _ => zT0, ⟨by show (0 : Int) ≤ 0; omega, by show (0 : Int) ≤ 7; omega⟩, fun _ => rfl⟩, fun i hi => ?_⟩
    · have h2 : (6 : Int) = 0 ∨ (6 : Int) = 4 := h1
      omega
    · have h2 : (6 : Int) = 1 := h1
      omega
    · have h2 : i < 2 := hi
      rcases (by omega : i = 0 ∨ i = 1) with rfl | rfl
      · exact ha
      · exact hb
theorem lv_nd {k op : Int} {L : List ET} {ka : Option Addr} {kc n : Nat} (hL : L.length ≤ 5) (h : ∀ x ∈ L, lvE x n) : lvE (nd k op L ka kc) (n + 1) :=
  ⟨Nat.succ_pos _, hL, .inl rfl, fun i hi => h _ (by
    have hi' : i < L.length := hi
    show L[i]?.getD .nil ∈ L
    rw [List.getElem?_eq_getElem hi']
    exact List.getElem_mem hi')⟩
theorem lv_up (e : ET) : ∀ n m, lvE e n → n ≤ m → lvE e m := by
  induction e with
  | nil => exact fun _ _ h => False.elim h
  | mk d kid ih =>
    intro n m hl hm
    exact ⟨by have := hl.1; omega, hl.2.1, hl.2.2.1, fun i hi => ih i (n - 1) (m - 1) (hl.2.2.2 i hi) (by omega)⟩
theorem esz_1 {k op : Int} {a : ET} {ka : Option Addr} {kc : Nat} : esz (nd k op [a] ka kc) = 1 + esz a := by
  show 1 + (0 + esz a) = _
  omega
theorem esz_2 {k op : Int} {a b : ET} {ka : Option Addr} {kc : Nat} : esz (nd k op [a, b] ka kc) = 1 + (esz a + esz b) := by
  show 1 + (0 + esz a + esz b) = _
  omega
theorem lone_iff {e : ET} {n : Nat} (h : lvE e n) (hn : n ≤ 100) (hz : esz e ≤ 480) : LoneOk e ↔ okS e := by
  have h1 := eOk_iff e n 1 h (by omega)
  exact ⟨fun hh => h1.1 hh.ok, fun hh => ⟨h1.2 hh, hz, by have := (eV_nm e n [] h ⟨fun v hv => (by cases hv), List.nodup_nil⟩).len; omega⟩⟩
theorem val_not (C : List Int → Option TD) (a : ET) (ka : Option Addr) (kc : Nat) : val C (nd 3 0 [a] ka kc) = ans (2 - tru (val C a)) := rfl
theorem val_and (C : List Int → Option TD) (a b : ET) (ka : Option Addr) (kc : Nat) : val C (nd 2 6 [a, b] ka kc) = ans (min (tru (val C a)) (tru (val C b))) := rfl
theorem val_or (C : List Int → Option TD) (a b : ET) (ka : Option Addr) (kc : Nat) : val C (nd 2 7 [a, b] ka kc) = ans (max (tru (val C a)) (tru (val C b))) := rfl
theorem val_coal (C : List Int → Option TD) (a b : ET) (ka : Option Addr) (kc : Nat) : val C (nd 6 0 [a, b] ka kc) = (val C a).or (val C b) := by
  show ((none : Option TD).or (val C a)).or (val C b) = _
  rfl
/-- Two expressions that may be asked alike, and have one value. -/
theorem valueIs_eq {e1 e2 : ET} {x : VW} {o1 o2 : Option TD} (h1 : ValueIs e1 x o1) (h2 : ValueIs e2 x o2) (hl : LoneOk e1 ↔ LoneOk e2) (hv : val x.C e1 = val x.C e2) : o1 = o2 := by
  rcases h1 with ⟨a1, b1⟩ | ⟨a1, b1⟩ <;> rcases h2 with ⟨a2, b2⟩ | ⟨a2, b2⟩
  · rw [b1, b2, hv]
  · exact absurd ⟨hl.1 a1.e, a1.v, a1.s⟩ a2
  · exact absurd ⟨hl.2 a2.e, a2.v, a2.s⟩ a1
  · rw [b1, b2]
theorem tr_x {e b : ET} {x : VW} {o1 o2 : Option TD} {k1 k2 k3 k4 k5 : Option Addr} {c1 c2 c3 c4 c5 : Nat} (he : lvE e 4) (hb : lvE b 1) (h1 : ValueIs (nd 3 0 [nd 2 6 [e, b] k1 c1] k2 c2) x o1) (h2 : ValueIs (nd 2 7 [nd 3 0 [e] k3 c3, nd 3 0 [b] k4 c4] k5 c5) x o2) : o1 = o2 := by
  have hb4 := lv_up b 1 4 hb (by omega)
  have s1 : esz e ≤ 156 := esz_lv e 4 he
  have s2 : esz b ≤ 1 := esz_lv b 1 hb
  have l1 : lvE (nd 3 0 [nd 2 6 [e, b] k1 c1] k2 c2) 6 := lv_nd (by simp) fun x hx => by rw [List.mem_singleton.1 hx]; exact lv_nd (by simp) (mem2 he hb4)
  have l2 : lvE (nd 2 7 [nd 3 0 [e] k3 c3, nd 3 0 [b] k4 c4] k5 c5) 6 := lv_nd (by simp) (mem2 (lv_nd (by simp) fun x hx => by rw [List.mem_singleton.1 hx]; exact he) (lv_nd (by simp) fun x hx => by rw [List.mem_singleton.1 hx]; exact hb4))
  refine valueIs_eq h1 h2 ?_ ?_
  · rw [lone_iff l1 (by omega) (by rw [esz_1, esz_2]; omega), lone_iff l2 (by omega) (by rw [esz_2, esz_1, esz_1]; omega), okS_one (.inl rfl), okS_op (by omega) (by omega), okS_op (by omega) (by omega), okS_one (.inl rfl), okS_one (.inl rfl)]
  · have r1 := tru_range (val x.C e)
    have r2 := tru_range (val x.C b)
    rw [val_not, val_and, val_or, val_not, val_not, tru_ans _ (by omega), tru_ans _ (by omega), tru_ans _ (by omega)]
    congr 1
    omega
theorem tr_z {e b : ET} {x : VW} {o1 o2 : Option TD} {k1 k2 : Option Addr} {c1 c2 : Nat} (he : lvE e 4) (hb : lvE b 1) (h1 : ValueIs (nd 2 6 [b, e] k1 c1) x o1) (h2 : ValueIs (nd 2 6 [e, b] k2 c2) x o2) : o1 = o2 := by
  have hb4 := lv_up b 1 4 hb (by omega)
  have s1 : esz e ≤ 156 := esz_lv e 4 he
  have s2 : esz b ≤ 1 := esz_lv b 1 hb
  have l1 : lvE (nd 2 6 [b, e] k1 c1) 5 := lv_nd (by simp) (mem2 hb4 he)
  have l2 : lvE (nd 2 6 [e, b] k2 c2) 5 := lv_nd (by simp) (mem2 he hb4)
  refine valueIs_eq h1 h2 ?_ ?_
  · rw [lone_iff l1 (by omega) (by rw [esz_2]; omega), lone_iff l2 (by omega) (by rw [esz_2]; omega), okS_op (by omega) (by omega), okS_op (by omega) (by omega)]
    exact And.comm
  · rw [val_and, val_and]
    congr 1
    omega
theorem tr_c {e s : ET} {x : VW} {o1 o2 : Option TD} {k1 : Option Addr} {c1 : Nat} {d : TD} (he : lvE e 4) (hs : lvE s 1) (hv : val x.C s = some d) (h1 : ValueIs e x o1) (h2 : ValueIs (nd 6 0 [e, s] k1 c1) x o2) (h : o2.isSome = true) : o1.isSome = true ∨ o2 = some d := by
  have hs4 := lv_up s 1 4 hs (by omega)
  have s1 : esz e ≤ 156 := esz_lv e 4 he
  have s2 : esz s ≤ 1 := esz_lv s 1 hs
  have l2 : lvE (nd 6 0 [e, s] k1 c1) 5 := lv_nd (by simp) (mem2 he hs4)
  rcases h2 with ⟨a2, b2⟩ | ⟨_, b2⟩
  rotate_left
  · rw [b2] at h; cases h
  have ok := okS_coal.1 ((lone_iff l2 (by omega) (by rw [esz_2]; omega)).1 a2.e)
  have a1 : VOk e x := ⟨(lone_iff he (by omega) (by omega)).2 ok.1, a2.v, a2.s⟩
  rcases h1 with ⟨_, b1⟩ | ⟨b1, _⟩
  rotate_left
  · exact absurd a1 b1
  rw [val_coal, hv, ← b1] at b2
  cases o1 with
  | none => exact .inr b2
  | some d1 => exact .inl rfl
end Go.Proofs.Ytidhcbjhggdncaa

/- TvY -/
namespace Go.Proofs.Ytidhcbjhggdncaa
open Go.RowKit Go.Deep
set_option maxRecDepth 100000

theorem flat_rev (L : List ET) (j : Nat) (u : Value) (h : ((L.map fun e => e.d.cells).flatten)[j]? = some u) : j / 8 < L.length ∧ ((L[j / 8]?.getD .nil).d.cells)[j % 8]? = some u := by
  have hj := (List.getElem?_eq_some_iff.1 h).1
  rw [flat_len] at hj
  have hi : j / 8 < L.length := by omega
  refine ⟨hi, ?_⟩
  have hc : j % 8 < ((L[j / 8]?.getD .nil).d.cells).length := by rw [cells8]; omega
  have h1 := flat_at L (j / 8) (j % 8) _ hi (List.getElem?_eq_getElem hc)
  rw [show j / 8 * 8 + j % 8 = j by omega, h] at h1
  rw [List.getElem?_eq_getElem hc]
  exact h1.symm
theorem cells_one (e : ET) : ∀ u ∈ e.d.cells, u.oneCell' = true := fun u hu => by
  simp only [EN.cells, List.mem_cons, List.not_mem_nil, or_false] at hu
  rcases hu with rfl | rfl | rfl | rfl | rfl | rfl | rfl | rfl <;> rfl
set_option maxHeartbeats 3000000 in
theorem func2_any (k op : Int) (L : List ET) (hL : L.length ≤ 4) (hL0 : 0 < L.length) (b off cap : Nat) (w : World) (hb : b < w.heap.size) (hR : ∀ i, i < L.length → ∀ c u, ((L[i]?.getD .nil).d.cells)[c]? = some u → w.cell? ⟨b, off + i * 8 + c, none⟩ = some u) (hl : ∀ x ∈ L, x.lies 0 w) :
    Calls Try.prog 8 #[.int .i64 k, .int .i64 op, .slice (some ⟨b, off, none⟩) L.length cap] w fun r w' => ∃ ka kc, r = .returned (.agg #[.int .i64 (nd k op L ka kc).d.k, .int .i64 (nd k op L ka kc).d.op, .slice (nd k op L ka kc).d.v.a (nd k op L ka kc).d.v.len (nd k op L ka kc).d.v.cap, .int .i64 (nd k op L ka kc).d.t.t.k, .slice (nd k op L ka kc).d.t.t.a (nd k op L ka kc).d.t.t.len (nd k op L ka kc).d.t.t.cap, .int .i64 (nd k op L ka kc).d.t.t.n, .int .i64 (nd k op L ka kc).d.t.t.s, .slice (nd k op L ka kc).d.ka (nd k op L ka kc).d.n (nd k op L ka kc).d.kc]) ∧ (nd k op L ka kc).lies 0 w' ∧ Below w.heap.size w w' := by
  obtain ⟨i0, hi0, hzz⟩ := Option.map_eq_some_iff.1 infoE8
  simp only [Prod.mk.injEq] at hzz
  obtain ⟨hi2, hi1, hi3⟩ := hzz
  have HB : Hid (Below w.heap.size w ((w.alloc (.cells #[.int .i64 0, .int .i64 0, .slice none 0 0, .int .i64 0, .slice none 0 0, .int .i64 0, .int .i64 0, .slice none 0 0] 29)).alloc (.cells #[] 29))) := bl_alloc (bl_a _) _
  have HO : Hid (OB ((w.alloc (.cells #[.int .i64 0, .int .i64 0, .slice none 0 0, .int .i64 0, .slice none 0 0, .int .i64 0, .int .i64 0, .slice none 0 0] 29)).alloc (.cells #[] 29)) w.heap.size [.int .i64 0, .int .i64 0, .slice none 0 0, .int .i64 0, .slice none 0 0, .int .i64 0, .int .i64 0, .slice none 0 0]) := (OB.new w #[.int .i64 0, .int .i64 0, .slice none 0 0, .int .i64 0, .slice none 0 0, .int .i64 0, .int .i64 0, .slice none 0 0] 29).below (bl_a _)
  have HNW : Hid (∀ j u, ((L.map fun e => e.d.cells).flatten)[j]? = some u → ((w.alloc (.cells #[.int .i64 0, .int .i64 0, .slice none 0 0, .int .i64 0, .slice none 0 0, .int .i64 0, .int .i64 0, .slice none 0 0] 29)).alloc (.cells #[] 29)).cell? ((⟨b, off, none⟩ : Addr).add j) = some u) := fun j u hu => by
    obtain ⟨h1, h2⟩ := flat_rev L j u hu
    have ea : (⟨b, off, none⟩ : Addr).add j = ⟨b, off + j, none⟩ := by unfold Addr.add; split <;> simp_all
    rw [ea, HB.out.cell (p := ⟨b, off + j, none⟩) hb]
    have h3 := hR _ h1 _ u h2
    rwa [show off + j / 8 * 8 + j % 8 = off + j by omega] at h3
  have HLL := hid hl
  have hlen : ((L.map fun e => e.d.cells).flatten).length = L.length * 8 := flat_len L
  have h1c : ∀ u ∈ (L.map fun e => e.d.cells).flatten, u.oneCell' = true := fun u hu => by
    obtain ⟨l, hm, hul⟩ := List.mem_flatten.1 hu
    obtain ⟨e, _, rfl⟩ := List.mem_map.1 hm
    exact cells_one e u hul
  have hb1 : 0 + L.length ≤ maxLen := by unfold maxLen; omega
  have hb2 : (0 + L.length) * 112 ≤ 140737488355328 := by omega
  have hes : (w.alloc (.cells #[.int .i64 0, .int .i64 0, .slice none 0 0, .int .i64 0, .slice none 0 0, .int .i64 0, .int .i64 0, .slice none 0 0] 29)).heap.size = w.heap.size + 1 := by simp
  clear hR hl hb
  go_in
  go_wp2_with (with_reducible refine wpv_at ?_; refine app_stopV (.tmp 9) (.tmp 10) 27 rfl ?_)
  change wpList _ _ _ _ _ _
  refine wpList_append_grows _ rfl (.tmp 9) (.tmp 10) 27 rfl 29 i0 (.agg #[.int .i64 0, .int .i64 0, .slice none 0 0, .int .i64 0, .slice none 0 0, .int .i64 0, .int .i64 0, .slice none 0 0]) 8 112 Try.underlying27 hi0 hi2 hi1 hi3 rfl (by omega) (some ⟨w.heap.size + 1, 0, none⟩) 0 0 [] rfl (fun h => by cases h) rfl (fun b hb j u hu => by cases hu) ⟨b, off, none⟩ L.length cap ((L.map fun e => e.d.cells).flatten) rfl hlen HNW.out h1c (by omega) hb1 hb2 ?_
  intro v9 w9 hown hgr
  obtain ⟨g9, cap9, rfl, hBg, hlt⟩ := hown.form (by omega)
  have HBn : Hid (Below ((w.alloc (.cells #[.int .i64 0, .int .i64 0, .slice none 0 0, .int .i64 0, .slice none 0 0, .int .i64 0, .int .i64 0, .slice none 0 0] 29)).alloc (.cells #[] 29)).heap.size ((w.alloc (.cells #[.int .i64 0, .int .i64 0, .slice none 0 0, .int .i64 0, .slice none 0 0, .int .i64 0, .int .i64 0, .slice none 0 0] 29)).alloc (.cells #[] 29)) w9) := ⟨hgr.os, hgr.tape, hgr.output, hgr.size, fun b hb => hgr.block b hb (by simp)⟩
  have HB9 : Hid (Below w.heap.size w w9) := bl_trans HB.out HBn.out
  have HO9 := hid (HO.out.below HBn.out)
  have hg9 : w.heap.size < g9 := Nat.lt_of_lt_of_le HO.out.1 hBg
  have HOW := hid hown
  rw [Nat.zero_add]
  have st : w9.there w.heap.size 0 8 := HO9.out.there 0 8 (by simp)
  have on : (#[.int .i64 k, .int .i64 op, .slice none 0 0, .int .i64 0, .slice none 0 0, .int .i64 0, .int .i64 0, .slice (some ⟨g9, 0, none⟩) L.length cap9] : Array Value).all (·.oneCell') = true := all_oneCell_toArray (cs := [.int .i64 k, .int .i64 op, .slice none 0 0, .int .i64 0, .slice none 0 0, .int .i64 0, .int .i64 0, .slice (some ⟨g9, 0, none⟩) L.length cap9]) (by simp [Value.oneCell'])
  have hrd : (w9.setCells w.heap.size 0 [.int .i64 k, .int .i64 op, .slice none 0 0, .int .i64 0, .slice none 0 0, .int .i64 0, .int .i64 0, .slice (some ⟨g9, 0, none⟩) L.length cap9]).rangeAt w.heap.size 0 [.int .i64 k, .int .i64 op, .slice none 0 0, .int .i64 0, .slice none 0 0, .int .i64 0, .int .i64 0, .slice (some ⟨g9, 0, none⟩) L.length cap9] := World.rangeAt_setCells_same _ _ _ _ st
  have hbf := hid (below_sets (w0 := w) w.heap.size (Nat.le_refl _) [.int .i64 k, .int .i64 op, .slice none 0 0, .int .i64 0, .slice none 0 0, .int .i64 0, .int .i64 0, .slice (some ⟨g9, 0, none⟩) L.length cap9] 0 w9 HB9.out)
  have HBT := hid (but_sets w.heap.size [.int .i64 k, .int .i64 op, .slice none 0 0, .int .i64 0, .slice none 0 0, .int .i64 0, .int .i64 0, .slice (some ⟨g9, 0, none⟩) L.length cap9] 0 w9)
  have HLX : Hid ((nd k op L (some ⟨g9, 0, none⟩) cap9).lies 0 (w9.setCells w.heap.size 0 [.int .i64 k, .int .i64 op, .slice none 0 0, .int .i64 0, .slice none 0 0, .int .i64 0, .int .i64 0, .slice (some ⟨g9, 0, none⟩) L.length cap9])) := by
    refine ⟨bsf0 _ _, bsf0 _ _, fits0, by show L.length ≤ 1048576; omega, .inr ⟨g9, 0, rfl, Nat.zero_le _, by rw [HBT.out.size]; exact hlt, fun i hi c u hcu => ?_⟩, fun i hi => ?_⟩
    · have h0 := flat_at L i c u hi hcu
      obtain ⟨h1, _⟩ := owns_cells HOW.out _ rfl (i * 8 + c) u (by rw [List.nil_append]; exact h0)
      have ea : (⟨g9, 0, none⟩ : Addr).add (i * 8 + c) = ⟨g9, i * 8 + c, none⟩ := by unfold Addr.add; split <;> simp_all
      rw [ea] at h1
      rw [Nat.zero_add]
      exact (HBT.out.cell (p := ⟨g9, i * 8 + c, none⟩) (show g9 ≠ w.heap.size by omega)).trans h1
    · have hi' : i < L.length := hi
      exact ET.lies.below (HLL.out _ (by show L[i]?.getD .nil ∈ L; rw [List.getElem?_eq_getElem hi']; exact List.getElem_mem hi')) hbf.out
  clear HNW HLL hlen h1c hb1 hb2 hes HB HO HBn HB9 HO9 HOW hown hgr hi0 hi2 hi1 hi3 hBg hlt hg9 HBT
  go_wp2_with (with_reducible refine wpv_at ?_; refine store_stopV 29 (.tmp 6) (.tmp 12) rfl ?_)
  change wpList _ _ _ _ _ _
  refine wpList_store_mid rfl 29 _ _ rfl w.heap.size 0 #[.int .i64 k, .int .i64 op, .slice none 0 0, .int .i64 0, .slice none 0 0, .int .i64 0, .int .i64 0, .slice (some ⟨g9, 0, none⟩) L.length cap9] rfl rfl st (by kernel_rfl) on ?_
  try simp only [Act.put]
  generalize w9.setCells w.heap.size 0 [.int .i64 k, .int .i64 op, .slice none 0 0, .int .i64 0, .slice none 0 0, .int .i64 0, .int .i64 0, .slice (some ⟨g9, 0, none⟩) L.length cap9] = W10 at *
  clear st on
  go_wp2
  try simp only [Exit.inBlock, Exit.then]
  refine bodyPost_ret (v := .agg #[.int .i64 k, .int .i64 op, .slice none 0 0, .int .i64 0, .slice none 0 0, .int .i64 0, .int .i64 0, .slice (some ⟨g9, 0, none⟩) L.length cap9]) ?hr rfl ?hp
  case hr => exact results_cell rfl rfl (run_loadVar_mid (P := Try.prog) _ w.heap.size 0 29 [.int .i64 k, .int .i64 op, .slice none 0 0, .int .i64 0, .slice none 0 0, .int .i64 0, .int .i64 0, .slice (some ⟨g9, 0, none⟩) L.length cap9] _ hrd Try.underlying29 rfl (by kernel_rfl))
  exact ⟨some ⟨g9, 0, none⟩, cap9, rfl, HLX.out, hbf.out⟩
end Go.Proofs.Ytidhcbjhggdncaa

/- TvZ -/
namespace Go.Proofs.Ytidhcbjhggdncaa
open Go.RowKit Go.Deep
set_option maxRecDepth 100000

set_option maxHeartbeats 1000000 in
theorem at_any (a : Option Addr) (len cap : Nat) (w : World) (hlen : len ≤ 9223372036854775807) (hC : Code w a len) : Calls Try.prog 7 #[.slice a len cap, .int .i64 7] w fun e w' => ∃ v : Int, e = .returned (.int .i64 v) ∧ 0 ≤ v ∧ v ≤ 255 ∧ w' = w := by
  by_cases h0 : len = 0
  · subst h0
    clear hC
    go_in
    go_wp2
    go_ret
    exact ⟨0, rfl, by omega, by omega, rfl⟩
  obtain ⟨b, off, rfl, hlt, hc⟩ := hC.resolve_left h0
  obtain ⟨r, hr⟩ : ∃ r, r = 7 % len := ⟨_, rfl⟩
  have hrl : r < len := by rw [hr]; exact Nat.mod_lt _ (by omega)
  obtain ⟨v, hv, v0, v1⟩ := hc r hrl
  have ht : Int.tmod 7 (len : Int) = (r : Int) := by rw [hr]; exact (Int.ofNat_tmod 7 len).symm
  have ht2 : (7 : Int) % (len : Int) = (r : Int) := by rw [hr]; rfl
  have z0 : ((len : Int) == 0) = false := by simp; omega
  have z1 : ¬ (len : Int) = 0 := by omega
  clear hc hC hr h0
  go_in
  go_wp2
  go_ret
  exact ⟨v, rfl, v0, v1, rfl⟩
theorem textT_any (s : ByteArray) (w : World) (hs : s.size ≤ 1048576) : Calls Try.prog 6 #[.string s] w fun e w' => ∃ cap, e = .returned (.slice (some ⟨w.heap.size, 0, none⟩) s.size cap) ∧ Tx w' w.heap.size (some ⟨w.heap.size, 0, none⟩) s.size cap (numsOf s) ∧ Below w.heap.size w w' := by
  have hcv := fun (w : World) (s : ByteArray) => Lib.run_convert_string_bytes (P := Try.prog) w 9 22 5 s Try.underlying9 Try.underlying22 Try.underlying5
  go_in
  go_wp2
  go_ret
  exact ⟨_, rfl, Tx.conv w s _ hs, bytesWorld_below _ _ _⟩
end Go.Proofs.Ytidhcbjhggdncaa

/- TxA -/
namespace Go.Proofs.Ytidhcbjhggdncaa
open Go.RowKit Go.Deep
set_option maxRecDepth 100000

/-- A number that stands alone. -/
def litE (n : Int) : ET := .mk ⟨1, 0, ⟨none, 0, 0, []⟩, ⟨⟨3, none, 0, 0, n, 0⟩, []⟩, none, 0, 0⟩ (fun _ => .nil)
theorem litE_lv (n : Int) : lvE (litE n) 1 := ⟨by omega, Nat.zero_le _, .inl rfl, fun i hi => absurd hi (Nat.not_lt_zero _)⟩
theorem litE_lies (n : Int) (B : Nat) (w : World) (h1 : -9223372036854775808 ≤ n) (h2 : n ≤ 9223372036854775807) : (litE n).lies B w := ⟨bsf0 _ _, bsf0 _ _, ⟨h1, h2, by show -9223372036854775808 ≤ (0 : Int); omega, by show (0 : Int) ≤ 9223372036854775807; omega⟩, Nat.zero_le _, .inl rfl, fun i hi => absurd hi (Nat.not_lt_zero _)⟩
theorem litE_ok (n : Int) (h : numOk n 0 = true) : okS (litE n) := by
  refine ⟨⟨.inl ⟨.inr (.inl rfl), rfl⟩, fun h1 => ?_, fun _ => rfl, fun _ => ?_, fun h1 => absurd rfl h1, ⟨by show (0 : Int) ≤ 0; omega, by show (0 : Int) ≤ 7; omega⟩, fun _ => rfl⟩, fun i hi => absurd hi (Nat.not_lt_zero _)⟩
  · have h2 : (1 : Int) = 0 ∨ (1 : Int) = 4 := h1
    omega
  · show termOk 3 [] n 0 = true
    simp [termOk, h]
/-- No variables, an empty solution. -/
def vw0 : VW := ⟨none, 0, 0, fun _ => ⟨none, 0, 0, []⟩, ⟨none, 0, 0, fun _ => zCB⟩⟩
theorem vw0_lies (B : Nat) (w : World) : vw0.lies B w := ⟨.inl rfl, fun _ hi => absurd hi (Nat.not_lt_zero _), Nat.zero_le _, ⟨.inl rfl, fun _ hi => absurd hi (Nat.not_lt_zero _), Nat.zero_le _⟩⟩
theorem lit_value (w : World) : Calls Try.prog 4 #[.agg #[.int .i64 1, .int .i64 0, .slice none 0 0, .int .i64 3, .slice none 0 0, .int .i64 1, .int .i64 0, .slice none 0 0], .slice none 0 0, .agg #[.slice none 0 0]] w (ValA (some ⟨3, [], 1, 0⟩) w) :=
  Value_any (litE 1) vw0 _ w (litE_lies 1 0 w (by omega) (by omega)) (vw0_lies 0 w) (.inl ⟨⟨(lone_iff (litE_lv 1) (by omega) (by show 1 + 0 ≤ 480; omega)).2 (litE_ok 1 (by decide)), ⟨Nat.zero_le _, fun i hi => absurd hi (Nat.not_lt_zero _)⟩, ⟨rfl, fun i hi => absurd hi (Nat.not_lt_zero _)⟩⟩, rfl⟩)
end Go.Proofs.Ytidhcbjhggdncaa

/- DrwE -/
namespace Go.Proofs.Ytidhcbjhggdncaa
open Go.RowKit Go.Deep

/-- A term's parts, with its text's place. -/
structure Tq where
  k : Int
  a : Option Addr
  len : Nat
  cap : Nat
  bs : List Int
  n : Int
  s : Int
/-- Its numbers are of 64 bits, its text is there. -/
def Tq.at (t : Tq) (w : World) : Prop := (-9223372036854775808 ≤ t.n ∧ t.n ≤ 9223372036854775807) ∧ (-9223372036854775808 ≤ t.s ∧ t.s ≤ 9223372036854775807) ∧ Bs w t.a t.len t.bs
theorem Tq.at.below {t : Tq} {w w' : World} (h : t.at w) (hb : Below w.heap.size w w') : t.at w' := ⟨h.1, h.2.1, h.2.2.below hb⟩

end Go.Proofs.Ytidhcbjhggdncaa

/- TrmA -/
namespace Go.Proofs.Ytidhcbjhggdncaa
open Go.RowKit Go.Deep

theorem sameBytes_like (a a' : Option Addr) (len cap len' cap' : Nat) (bs : List Int) (w : World) (h : Bs w a len bs) (h' : Bs w a' len' bs) :
    Calls Try.prog 21 #[.slice a len cap, .slice a' len' cap'] w fun e w' => e = .returned (.bool true) ∧ w' = w := by
  have e1 := h.str (cap := cap)
  have e2 := h'.str (cap := cap')
  clear h h'
  go_enter Try.func21, Try.ntmps21
  go_wp2
  go_ret
  exact ⟨by simp, rfl⟩
theorem sameTerm_like (t u : Tq) (w : World) (hk : t.k = u.k) (hb : t.bs = u.bs) (hn : t.n = u.n) (hs : t.s = u.s) (h : Bs w t.a t.len t.bs) (h' : Bs w u.a u.len u.bs) :
    Calls Try.prog 9 #[.agg #[.int .i64 t.k, .slice t.a t.len t.cap, .int .i64 t.n, .int .i64 t.s], .agg #[.int .i64 u.k, .slice u.a u.len u.cap, .int .i64 u.n, .int .i64 u.s]] w fun e w' => e = .returned (.bool true) ∧ Below w.heap.size w w' := by
  have S := fun w h h' => sameBytes_like t.a u.a t.len t.cap u.len u.cap t.bs w h h'
  rw [← hb] at h'
  have k1 : (t.k == u.k) = true := by simp [hk]
  have n1 : (t.n == u.n) = true := by simp [hn]
  have s1 : (t.s == u.s) = true := by simp [hs]
  clear hk hb hn hs
  go_enter Try.func9, Try.ntmps9
  go_wp2_with fail
  refine (S _ (h.below (bl_alloc (bl_a _) _)) (h'.below (bl_alloc (bl_a _) _))).mono ?_
  rintro e w1 ⟨rfl, rfl⟩
  clear S
  go_wp2
  go_ret
  exact ⟨by simp [*], bl_alloc (bl_a _) _⟩

def Tq.td (t : Tq) : TD := ⟨t.k, t.bs, t.n, t.s⟩
end Go.Proofs.Ytidhcbjhggdncaa

/- TxB -/
namespace Go.Proofs.Ytidhcbjhggdncaa
open Go.RowKit Go.Deep
set_option maxRecDepth 100000

theorem VW.lies.below {B : Nat} {w w' : World} {x : VW} (h : x.lies B w) (hb : Below w.heap.size w w') : x.lies B w' := h.upper (Upper.of_below hb)
/-- An expression in a box. -/
structure EB (W : World) (g : Nat) (e : ET) : Prop where
  bx : Box W g [.int .i64 e.d.k, .int .i64 e.d.op, .slice e.d.v.a e.d.v.len e.d.v.cap, .int .i64 e.d.t.t.k, .slice e.d.t.t.a e.d.t.t.len e.d.t.t.cap, .int .i64 e.d.t.t.n, .int .i64 e.d.t.t.s, .slice e.d.ka e.d.n e.d.kc]
  l : e.lies 0 W
theorem EB.below {W W' : World} {g : Nat} {e : ET} (h : EB W g e) (hb : Below W.heap.size W W') : EB W' g e := ⟨h.bx.below hb, h.l.below hb⟩
/-- What was drawn lies in its boxes. -/
structure TU (w W : World) (e : ET) (x : VW) (b5 : Nat) : Prop where
  bl : Below w.heap.size w W
  e : EB W b5 e
  s : Box W (b5 + 1) [.slice x.s.a x.s.n x.s.cap]
  x : x.lies 0 W
theorem TU.below {w W W' : World} {e : ET} {x : VW} {b5 : Nat} (h : TU w W e x b5) (hb : Below W.heap.size W W') : TU w W' e x b5 := ⟨bl_trans h.bl hb, h.e.below hb, h.s.below hb, h.x.below hb⟩
/-- A row of expressions. -/
def RE (W : World) (g : Nat) (L : List ET) : Prop := g < W.heap.size ∧ ∀ i, i < L.length → ∀ c u, ((L[i]?.getD .nil).d.cells)[c]? = some u → W.cell? ⟨g, 0 + i * 8 + c, none⟩ = some u
theorem RE.below {W W' : World} {g : Nat} {L : List ET} (h : RE W g L) (hb : Below W.heap.size W W') : RE W' g L := ⟨Nat.lt_of_lt_of_le h.1 hb.size, fun i hi c u hu => (hb.cell (p := ⟨g, 0 + i * 8 + c, none⟩) h.1).trans (h.2 i hi c u hu)⟩
theorem RE.new (W : World) (L : List ET) (vs : Array Value) (t : TypeId) (hvs : vs.toList = (L.map fun e => e.d.cells).flatten) : RE (W.alloc (.cells vs t)) W.heap.size L := ⟨by simp, fun i hi c u hu => by
  rw [Nat.zero_add]
  exact (Box.new W vs t (0, 0)).2 _ u (by rw [hvs]; exact flat_at L i c u hi hu)⟩
theorem func2_row (k op : Int) (L : List ET) (hL : L.length ≤ 4) (hL0 : 0 < L.length) (g cap : Nat) (w : World) (hR : RE w g L) (hl : ∀ x ∈ L, x.lies 0 w) :
    Calls Try.prog 8 #[.int .i64 k, .int .i64 op, .slice (some ⟨g, 0, none⟩) L.length cap] w fun r w' => ∃ n ka kc, Hid (n = nd k op L ka kc) ∧ r = .returned (.agg #[.int .i64 n.d.k, .int .i64 n.d.op, .slice n.d.v.a n.d.v.len n.d.v.cap, .int .i64 n.d.t.t.k, .slice n.d.t.t.a n.d.t.t.len n.d.t.t.cap, .int .i64 n.d.t.t.n, .int .i64 n.d.t.t.s, .slice n.d.ka n.d.n n.d.kc]) ∧ n.lies 0 w' ∧ Below w.heap.size w w' :=
  (func2_any k op L hL hL0 g 0 cap w hR.1 hR.2 hl).mono fun _ _ ⟨ka, kc, h1, h2, h3⟩ => ⟨_, ka, kc, (rfl : nd k op L ka kc = _), h1, h2, h3⟩
/-- The term that Value answered lies in a box. -/
structure VB (W wx : World) (g : Nat) (t : TB) (q : Bool) (o : Option TD) : Prop where
  q : q = o.isSome
  l : TLies wx t
  td : t.td = o.getD zT
  bx : Box wx g [.int .i64 t.t.k, .slice t.t.a t.t.len t.t.cap, .int .i64 t.t.n, .int .i64 t.t.s]
  bl : Below W.heap.size W wx
theorem VB.below {W wx wy : World} {g : Nat} {t : TB} {q : Bool} {o : Option TD} (h : VB W wx g t q o) (hb : Below wx.heap.size wx wy) : VB W wy g t q o := ⟨h.q, h.l.below hb, h.td, h.bx.below hb, bl_trans h.bl hb⟩
/-- A term stored into a new box. -/
theorem VB.store {W wy : World} {g : Nat} {t : TB} {q : Bool} {o : Option TD} (hq : q = o.isSome) {B : Nat} (hl : BsF B wy t.sl) (hfi : t.t.fits) (htd : t.td = o.getD zT) (hO : OB wy g [.int .i64 0, .slice none 0 0, .int .i64 0, .int .i64 0]) (hg : W.heap.size ≤ g) (hb : Below W.heap.size W wy) (hf : g < B) : VB W (wy.setCells g 0 [.int .i64 t.t.k, .slice t.t.a t.t.len t.t.cap, .int .i64 t.t.n, .int .i64 t.t.s]) g t q o := by
  have st : wy.there g 0 4 := hO.there 0 4 (by simp)
  have hbt := but_sets g [.int .i64 t.t.k, .slice t.t.a t.t.len t.t.cap, .int .i64 t.t.n, .int .i64 t.t.s] 0 wy
  have hrd : (wy.setCells g 0 [.int .i64 t.t.k, .slice t.t.a t.t.len t.t.cap, .int .i64 t.t.n, .int .i64 t.t.s]).rangeAt g 0 [.int .i64 t.t.k, .slice t.t.a t.t.len t.t.cap, .int .i64 t.t.n, .int .i64 t.t.s] := World.rangeAt_setCells_same _ _ _ _ st
  refine ⟨hq, ?_, htd, ⟨by rw [hbt.size]; exact hO.1, fun c u hu => ?_⟩, below_sets (w0 := W) g hg _ 0 wy hb⟩
  · exact ⟨(hl.upper ((upper_sets g [.int .i64 t.t.k, .slice t.t.a t.t.len t.t.cap, .int .i64 t.t.n, .int .i64 t.t.s] 0 wy).mono (by omega))).base (Nat.zero_le _), hfi⟩
  · have h := hrd c u hu
    rwa [Nat.zero_add] at h
/-- A term stored into a box that was made behind it. -/
theorem VB.store2 {W wy : World} {t : TB} {q : Bool} {o : Option TD} (hq : q = o.isSome) {B : Nat} (hl : BsF B wy t.sl) (hfi : t.t.fits) (htd : t.td = o.getD zT) (hb : Below W.heap.size W wy) : VB W ((wy.alloc (.cells #[.int .i64 0, .slice none 0 0, .int .i64 0, .int .i64 0] 24)).setCells wy.heap.size 0 [.int .i64 t.t.k, .slice t.t.a t.t.len t.t.cap, .int .i64 t.t.n, .int .i64 t.t.s]) wy.heap.size t q o := by
  have hO := OB.new wy #[.int .i64 0, .slice none 0 0, .int .i64 0, .int .i64 0] 24
  have st : (wy.alloc (.cells #[.int .i64 0, .slice none 0 0, .int .i64 0, .int .i64 0] 24)).there wy.heap.size 0 4 := hO.there 0 4 (by simp)
  have hbt := but_sets wy.heap.size [.int .i64 t.t.k, .slice t.t.a t.t.len t.t.cap, .int .i64 t.t.n, .int .i64 t.t.s] 0 (wy.alloc (.cells #[.int .i64 0, .slice none 0 0, .int .i64 0, .int .i64 0] 24))
  have hrd : ((wy.alloc (.cells #[.int .i64 0, .slice none 0 0, .int .i64 0, .int .i64 0] 24)).setCells wy.heap.size 0 [.int .i64 t.t.k, .slice t.t.a t.t.len t.t.cap, .int .i64 t.t.n, .int .i64 t.t.s]).rangeAt wy.heap.size 0 [.int .i64 t.t.k, .slice t.t.a t.t.len t.t.cap, .int .i64 t.t.n, .int .i64 t.t.s] := World.rangeAt_setCells_same _ _ _ _ st
  have hB := below_sets (w0 := wy) wy.heap.size (Nat.le_refl _) [.int .i64 t.t.k, .slice t.t.a t.t.len t.t.cap, .int .i64 t.t.n, .int .i64 t.t.s] 0 (wy.alloc (.cells #[.int .i64 0, .slice none 0 0, .int .i64 0, .int .i64 0] 24)) (bl_a _)
  refine ⟨hq, ?_, htd, ⟨by rw [hbt.size]; exact hO.1, fun c u hu => ?_⟩, bl_trans hb hB⟩
  · exact TLies.below (t := t) ⟨hl.base (Nat.zero_le _), hfi⟩ hB
  · have h := hrd c u hu
    rwa [Nat.zero_add] at h
/-- A variable's name of one letter. -/
def vE (k : Int) (v : SL) : ET := .mk ⟨k, 0, v, ⟨⟨0, none, 0, 0, 0, 0⟩, []⟩, none, 0, 0⟩ (fun _ => .nil)
theorem vE_lies {k : Int} {v : SL} {B : Nat} {w : World} (h : BsF B w v) : (vE k v).lies B w := ⟨h, bsf0 _ _, fits0, Nat.zero_le _, .inl rfl, fun _ hi => absurd hi (Nat.not_lt_zero _)⟩
theorem vE_lv {k : Int} {v : SL} (h : v.b ∈ NM) : lvE (vE k v) 1 := ⟨by omega, Nat.zero_le _, .inr h, fun _ hi => absurd hi (Nat.not_lt_zero _)⟩
end Go.Proofs.Ytidhcbjhggdncaa
