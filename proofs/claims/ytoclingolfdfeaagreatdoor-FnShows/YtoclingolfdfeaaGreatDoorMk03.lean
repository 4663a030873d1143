/- Texts put together: OrdA StrA ShwM RdA RdB TriA -/
import Derived.Test.YtoclingolfdfeaaGreatDoorMk02
import Derived.Test.YtoclingolfdfeaaGreatDoorMk01
/- OrdA -/
namespace Go.Proofs.YtoclingolfdfeaaGreatDoor
open Go.RowKit Go.Deep

/-- A comparison that answers -1, 0, 1, that turns its sign when its two sides change places, and that goes on from one to the next. -/
structure Ord3 {α : Type} (c : α → α → Int) : Prop where
  rng : ∀ x y, c x y = -1 ∨ c x y = 0 ∨ c x y = 1
  anti : ∀ x y, c x y = - c y x
  trans : ∀ x y z, c x y ≤ 0 → c y z ≤ 0 → c x z ≤ 0
theorem Ord3.self {α : Type} {c : α → α → Int} (h : Ord3 c) (x : α) : c x x = 0 := by have := h.anti x x; omega
theorem Ord3.lex {α : Type} {c d : α → α → Int} (h : Ord3 c) (k : Ord3 d) : Ord3 (fun x y => orI (c x y) (d x y)) := by
  refine ⟨fun x y => ?_, fun x y => ?_, fun x y z h1 h2 => ?_⟩
  · unfold orI
    split
    · exact k.rng x y
    · exact h.rng x y
  · have e := h.anti x y
    have f := k.anti x y
    unfold orI
    by_cases c0 : c x y = 0
    · rw [if_pos c0, if_pos (by omega)]; exact f
    · rw [if_neg c0, if_neg (by omega)]; exact e
  · have p1 : c x y ≤ 0 := by
      unfold orI at h1
      split at h1 <;> omega
    have p2 : c y z ≤ 0 := by
      unfold orI at h2
      split at h2 <;> omega
    have p3 := h.trans x y z p1 p2
    show orI (c x z) (d x z) ≤ 0
    unfold orI
    by_cases c0 : c x z = 0
    · rw [if_pos c0]
      have a1 := h.anti x z
      have a2 := h.anti x y
      have a3 := h.anti y z
      have q1 := h.trans y z x p2 (by omega)
      have q2 := h.trans z x y (by omega) p1
      have e1 : c x y = 0 := by omega
      have e2 : c y z = 0 := by omega
      have h1' : d x y ≤ 0 := by
        have : orI (c x y) (d x y) ≤ 0 := h1
        unfold orI at this
        rwa [if_pos e1] at this
      have h2' : d y z ≤ 0 := by
        have : orI (c y z) (d y z) ≤ 0 := h2
        unfold orI at this
        rwa [if_pos e2] at this
      exact k.trans x y z h1' h2'
    · rw [if_neg c0]; exact p3
theorem Ord3.key {α : Type} (f : α → Int) : Ord3 (fun x y => cmpI (f x) (f y)) := by
  refine ⟨fun x y => ?_, fun x y => ?_, fun x y z h1 h2 => ?_⟩
  · unfold cmpI
    split
    · simp
    · split <;> simp
  · unfold cmpI
    by_cases c1 : f x < f y
    · rw [if_pos c1, if_neg (by omega), if_pos c1]
    · by_cases c2 : f y < f x
      · rw [if_neg c1, if_pos c2, if_pos c2]; rfl
      · rw [if_neg c1, if_neg c2, if_neg c2, if_neg c1]; rfl
  · have g : ∀ a b : Int, cmpI a b ≤ 0 ↔ a ≤ b := by
      intro a b
      unfold cmpI
      by_cases c1 : a < b
      · rw [if_pos c1]; omega
      · by_cases c2 : b < a
        · rw [if_neg c1, if_pos c2]; omega
        · rw [if_neg c1, if_neg c2]; omega
    have h1 := (g _ _).1 h1
    have h2 := (g _ _).1 h2
    exact (g _ _).2 (by omega)

theorem cb_rng : ∀ xs ys : List UInt8, Lib.compareBytes xs ys = -1 ∨ Lib.compareBytes xs ys = 0 ∨ Lib.compareBytes xs ys = 1
  | [], [] => by simp [Lib.compareBytes]
  | [], _ :: _ => by simp [Lib.compareBytes]
  | _ :: _, [] => by simp [Lib.compareBytes]
  | a :: ar, b :: br => by
    unfold Lib.compareBytes
    split
    · simp
    · split
      · simp
      · exact cb_rng ar br
theorem u8_lt (a b : UInt8) : a < b ↔ a.toNat < b.toNat := UInt8.lt_iff_toNat_lt
theorem u8_eq {a b : UInt8} (h1 : ¬ a < b) (h2 : ¬ b < a) : a = b := by
  rw [u8_lt] at h1 h2
  exact UInt8.toNat_inj.1 (by omega)
theorem cb_anti : ∀ xs ys : List UInt8, Lib.compareBytes xs ys = - Lib.compareBytes ys xs
  | [], [] => by simp [Lib.compareBytes]
  | [], _ :: _ => by simp [Lib.compareBytes]
  | _ :: _, [] => by simp [Lib.compareBytes]
  | a :: ar, b :: br => by
    unfold Lib.compareBytes
    by_cases h1 : a < b
    · have h2 : ¬ b < a := by rw [u8_lt] at *; omega
      rw [if_pos h1, if_neg h2, if_pos h1]
    · by_cases h2 : b < a
      · rw [if_neg h1, if_pos h2, if_pos h2]; rfl
      · rw [if_neg h1, if_neg h2, if_neg h2, if_neg h1]
        exact cb_anti ar br
theorem cb_trans : ∀ xs ys zs : List UInt8, Lib.compareBytes xs ys ≤ 0 → Lib.compareBytes ys zs ≤ 0 → Lib.compareBytes xs zs ≤ 0
  | [], _, [] => by simp [Lib.compareBytes]
  | [], _, _ :: _ => by simp [Lib.compareBytes]
  | _ :: _, [], _ => by simp [Lib.compareBytes]
  | _ :: _, _ :: _, [] => by simp [Lib.compareBytes]
  | a :: ar, b :: br, c :: cr => by
    unfold Lib.compareBytes
    intro h1 h2
    by_cases a1 : a < b
    · by_cases b1 : b < c
      · have : a < c := by rw [u8_lt] at *; omega
        rw [if_pos this]; omega
      · by_cases b2 : c < b
        · rw [if_neg b1, if_pos b2] at h2; omega
        · have := u8_eq b1 b2
          subst this
          rw [if_pos a1]; omega
    · by_cases a2 : b < a
      · rw [if_neg a1, if_pos a2] at h1; omega
      · have := u8_eq a1 a2
        subst this
        rw [if_neg a1, if_neg a1] at h1
        by_cases b1 : a < c
        · rw [if_pos b1]; omega
        · by_cases b2 : c < a
          · rw [if_neg b1, if_pos b2] at h2; omega
          · rw [if_neg b1, if_neg b2] at h2 ⊢
            exact cb_trans ar br cr h1 h2
theorem cb_zero : ∀ xs ys : List UInt8, Lib.compareBytes xs ys = 0 → xs = ys
  | [], [] => fun _ => rfl
  | [], _ :: _ => by simp [Lib.compareBytes]
  | _ :: _, [] => by simp [Lib.compareBytes]
  | a :: ar, b :: br => by
    unfold Lib.compareBytes
    intro h
    by_cases h1 : a < b
    · rw [if_pos h1] at h; omega
    · by_cases h2 : b < a
      · rw [if_neg h1, if_pos h2] at h; omega
      · rw [if_neg h1, if_neg h2] at h
        rw [u8_eq h1 h2, cb_zero ar br h]
theorem bytesOf_inj {xs ys : List Int} (hx : ∀ i : Nat, 0 ≤ xs[i]?.getD 0 ∧ xs[i]?.getD 0 ≤ 255) (hy : ∀ i : Nat, 0 ≤ ys[i]?.getD 0 ∧ ys[i]?.getD 0 ≤ 255) (h : Lib.bytesOf xs = Lib.bytesOf ys) : xs = ys := by
  have hl : xs.length = ys.length := by
    have := congrArg List.length h
    simpa [Lib.bytesOf] using this
  refine List.ext_getElem? fun i => ?_
  by_cases hi : i < xs.length
  · have h1 := congrArg (fun l => l[i]?) h
    simp only [Lib.bytesOf, List.getElem?_map, List.getElem?_eq_getElem hi, List.getElem?_eq_getElem (show i < ys.length by omega), Option.map_some, Option.some.injEq] at h1
    have hx' := hx i
    have hy' := hy i
    rw [List.getElem?_eq_getElem hi] at hx' ⊢
    rw [List.getElem?_eq_getElem (show i < ys.length by omega)] at hy' ⊢
    simp only [Option.getD_some] at hx' hy'
    have h2 := congrArg UInt8.toNat h1
    simp only [UInt8.toNat_ofNat'] at h2
    congr 1
    omega
  · rw [List.getElem?_eq_none (by omega), List.getElem?_eq_none (by omega)]

/-- A term's parts. -/
structure TD where
  k : Int
  bs : List Int
  n : Int
  s : Int
def TD.ok (x : TD) : Bool := termOk x.k x.bs x.n x.s
def TD.cmp (x y : TD) : Int := cmp3 (cmpI x.k y.k) (cmpB x.bs y.bs) (cmpN x.n x.s.toNat y.n y.s.toNat)
def TD.cT (x y : TD) : Int := cmpT x.ok y.ok (x.cmp y)
theorem ord_cmpB : Ord3 (fun x y : TD => cmpB x.bs y.bs) := ⟨fun _ _ => cb_rng _ _, fun _ _ => cb_anti _ _, fun _ _ _ => cb_trans _ _ _⟩
theorem ord_cmp : Ord3 TD.cmp := Ord3.lex (Ord3.key TD.k) (Ord3.lex ord_cmpB (Ord3.lex (Ord3.key fun x : TD => x.n.tdiv (p10 x.s.toNat)) (Ord3.key fun x : TD => restOf x.n x.s.toNat)))
theorem cmpI_zero {a b : Int} (h : cmpI a b = 0) : a = b := by
  unfold cmpI at h
  split at h
  · omega
  · split at h <;> omega
theorem orI_zero {a b : Int} (h : orI a b = 0) : a = 0 ∧ b = 0 := by
  unfold orI at h
  split at h
  · exact ⟨by assumption, h⟩
  · omega
theorem scaled (n : Int) (s : Nat) (hs : s ≤ 6) : n * p10 (6 - s) = n.tdiv (p10 s) * 1000000 + restOf n s := by
  have h : s = 0 ∨ s = 1 ∨ s = 2 ∨ s = 3 ∨ s = 4 ∨ s = 5 ∨ s = 6 := by omega
  rcases h with rfl | rfl | rfl | rfl | rfl | rfl | rfl
  · have t := Int.mul_tdiv_add_tmod n 1; simp [restOf, p10]
  · have t := Int.mul_tdiv_add_tmod n 10; simp [restOf, p10]; omega
  · have t := Int.mul_tdiv_add_tmod n 100; simp [restOf, p10]; omega
  · have t := Int.mul_tdiv_add_tmod n 1000; simp [restOf, p10]; omega
  · have t := Int.mul_tdiv_add_tmod n 10000; simp [restOf, p10]; omega
  · have t := Int.mul_tdiv_add_tmod n 100000; simp [restOf, p10]; omega
  · have t := Int.mul_tdiv_add_tmod n 1000000; simp [restOf, p10]; omega
theorem num_same {n n' : Int} {s s' : Nat} (hs : s ≤ 6) (hs' : s' ≤ 6) (o : s = 0 ∨ n.tmod 10 ≠ 0) (o' : s' = 0 ∨ n'.tmod 10 ≠ 0) (h : cmpN n s n' s' = 0) : n = n' ∧ s = s' := by
  unfold cmpN at h
  obtain ⟨h1, h2⟩ := orI_zero h
  have h1 := cmpI_zero h1
  have h2 := cmpI_zero h2
  have e1 := scaled n s hs
  have e2 := scaled n' s' hs'
  rw [h1, h2] at e1
  have e : n * p10 (6 - s) = n' * p10 (6 - s') := by omega
  have c1 : s = 0 ∨ s = 1 ∨ s = 2 ∨ s = 3 ∨ s = 4 ∨ s = 5 ∨ s = 6 := by omega
  have c2 : s' = 0 ∨ s' = 1 ∨ s' = 2 ∨ s' = 3 ∨ s' = 4 ∨ s' = 5 ∨ s' = 6 := by omega
  have m1 := Int.mul_tdiv_add_tmod n 10
  have m2 := Int.mul_tdiv_add_tmod n' 10
  have b1 := tmod_bound n 10 (by omega)
  have b2 := tmod_bound n' 10 (by omega)
  clear h1 h2 e1 e2 h
  rcases c1 with rfl | rfl | rfl | rfl | rfl | rfl | rfl <;> rcases c2 with rfl | rfl | rfl | rfl | rfl | rfl | rfl <;> simp [p10] at e <;> omega
/-- Terms that may be and compare alike are the same. -/
theorem TD.same {x y : TD} (hx : ∀ i : Nat, 0 ≤ x.bs[i]?.getD 0 ∧ x.bs[i]?.getD 0 ≤ 255) (hy : ∀ i : Nat, 0 ≤ y.bs[i]?.getD 0 ∧ y.bs[i]?.getD 0 ≤ 255) (ok : x.ok = true) (h : x.cT y = 0) : x = y := by
  have oky : y.ok = true := by
    cases e : y.ok
    · unfold TD.cT cmpT at h
      rw [ok, e] at h
      simp at h
    · rfl
  have h' : x.cmp y = 0 := by
    unfold TD.cT cmpT at h
    rw [ok, oky] at h
    simpa using h
  obtain ⟨k, bs, n, s⟩ := x
  obtain ⟨k', bs', n', s'⟩ := y
  unfold TD.cmp cmp3 at h'
  obtain ⟨h1, h2⟩ := orI_zero h'
  obtain ⟨h2, h3⟩ := orI_zero h2
  have hk : k = k' := cmpI_zero h1
  have hbs : bs = bs' := bytesOf_inj hx hy (cb_zero _ _ h2)
  have h3 : cmpN n s.toNat n' s'.toNat = 0 := h3
  clear h1 h2
  subst hk hbs
  have o1 : termOk k bs n s = true := ok
  have o2 : termOk k bs n' s' = true := oky
  have s1 := termOk_scale o1
  have s2 := termOk_scale o2
  have hz : n = n' ∧ s = s' := by
    unfold termOk at o1 o2
    by_cases k0 : k = 0
    · rw [if_pos k0] at o1 o2; simp at o1 o2; omega
    by_cases k1 : k = 1
    · rw [if_neg k0, if_pos k1] at o1 o2
      simp at o1 o2
      have a1 : s = 0 := o1.2
      have a2 : s' = 0 := o2.2
      subst a1 a2
      have := num_same (s := 0) (s' := 0) (by omega) (by omega) (.inl rfl) (.inl rfl) h3
      exact ⟨this.1, rfl⟩
    by_cases k2 : k = 2
    · rw [if_neg k0, if_neg k1, if_pos k2] at o1 o2; simp at o1 o2; omega
    by_cases k3 : k = 3
    · rw [if_neg k0, if_neg k1, if_neg k2, if_pos k3] at o1 o2
      simp only [Bool.and_eq_true, numOk, Bool.or_eq_true, decide_eq_true_eq, beq_iff_eq, bne_iff_ne] at o1 o2
      have := num_same (s := s.toNat) (s' := s'.toNat) (by omega) (by omega) (o1.2.2.elim (fun h => .inl (by omega)) (fun h => .inr h)) (o2.2.2.elim (fun h => .inl (by omega)) (fun h => .inr h)) h3
      exact ⟨this.1, by omega⟩
    · rw [if_neg k0, if_neg k1, if_neg k2, if_neg k3] at o1; cases o1
  obtain ⟨rfl, rfl⟩ := hz
  rfl
end Go.Proofs.YtoclingolfdfeaaGreatDoor

/- StrA -/
namespace Go.Proofs.YtoclingolfdfeaaGreatDoor
open Go.RowKit Go.Deep

/-- A comparison whose zero is sameness, on what P tells. -/
structure OrdP {α : Type} (P : α → Prop) (c : α → α → Int) : Prop where
  o : Ord3 c
  z : ∀ x y, P x → P y → c x y = 0 → x = y

/-- Two lists that ascend strictly and hold the same are the same. -/
theorem asc_unique {α : Type} {P : α → Prop} {c : α → α → Int} (h : OrdP P c) : ∀ (xs ys : List α), (∀ x ∈ xs, P x) → (∀ y ∈ ys, P y) → xs.Pairwise (fun x y => c x y < 0) → ys.Pairwise (fun x y => c x y < 0) → (∀ x, x ∈ xs ↔ x ∈ ys) → xs = ys
  | [], [], _, _, _, _, _ => rfl
  | [], y :: ys, _, _, _, _, hm => by have := (hm y).2 (by simp); simp at this
  | x :: xs, [], _, _, _, _, hm => by have := (hm x).1 (by simp); simp at this
  | x :: xs, y :: ys, hx, hy, ax, ay, hm => by
    have ax' := List.pairwise_cons.1 ax
    have ay' := List.pairwise_cons.1 ay
    have e : x = y := by
      have h1 := (hm x).1 (by simp)
      have h2 := (hm y).2 (by simp)
      rcases List.mem_cons.1 h1 with h1 | h1
      · exact h1
      · rcases List.mem_cons.1 h2 with h2 | h2
        · exact h2.symm
        · have a := ay'.1 x h1
          have b := ax'.1 y h2
          have := h.o.anti x y
          omega
    subst e
    have hself := h.o.self x
    congr 1
    refine asc_unique h xs ys (fun z hz => hx z (by simp [hz])) (fun z hz => hy z (by simp [hz])) ax'.2 ay'.2 fun z => ⟨fun hz => ?_, fun hz => ?_⟩
    · have := (hm z).1 (by simp [hz])
      rcases List.mem_cons.1 this with rfl | this
      · have := ax'.1 z hz; omega
      · exact this
    · have := (hm z).2 (by simp [hz])
      rcases List.mem_cons.1 this with rfl | this
      · have := ay'.1 z hz; omega
      · exact this

/-- A term that may be, of bytes. -/
def TD.good (x : TD) : Prop := x.ok = true ∧ Byt x.bs
theorem TD.cT_good {x y : TD} (hx : x.good) (hy : y.good) : x.cT y = x.cmp y := by
  unfold TD.cT cmpT
  rw [hx.1, hy.1]
  rfl
theorem ordP_cmp : OrdP TD.good TD.cmp := ⟨ord_cmp, fun x y hx hy h => TD.same hx.2.get hy.2.get hx.1 (by rw [TD.cT_good hx hy]; exact h)⟩

end Go.Proofs.YtoclingolfdfeaaGreatDoor

/- ShwM -/
namespace Go.Proofs.YtoclingolfdfeaaGreatDoor
open Go.RowKit Go.Deep
set_option maxRecDepth 100000

/-- What digits are worth. -/
def valL (l : List Int) : Nat := l.foldl (fun a d => a * 10 + (d - 48).toNat) 0
theorem valL_snoc (l : List Int) (d : Int) : valL (l ++ [d]) = valL l * 10 + (d - 48).toNat := by simp [valL]
theorem valL_digits (n : Nat) : valL (digitsL n) = n := by
  induction n using Nat.strongRecOn with
  | ind n ih =>
    by_cases h : n < 10
    · rw [digitsL_small h]
      simp [valL]
      omega
    · rw [digitsL_step h, valL_snoc, ih (n / 10) (by omega)]
      omega
theorem valL_zeros (m : Nat) (l : List Int) : valL (List.replicate m 48 ++ l) = valL l := by
  induction m with
  | zero => simp
  | succ m ih =>
    rw [List.replicate_succ, List.cons_append]
    simp only [valL, List.foldl_cons] at ih ⊢
    simpa using ih
theorem digitsL_mem (n : Nat) : ∀ d ∈ digitsL n, 48 ≤ d ∧ d ≤ 57 := by
  induction n using Nat.strongRecOn with
  | ind n ih =>
    intro d hd
    by_cases h : n < 10
    · rw [digitsL_small h] at hd
      simp only [List.mem_cons, List.not_mem_nil, or_false] at hd
      omega
    · rw [digitsL_step h, List.mem_append] at hd
      rcases hd with hd | hd
      · exact ih (n / 10) (by omega) d hd
      · simp only [List.mem_cons, List.not_mem_nil, or_false] at hd
        omega
theorem dig_no (n : Nat) : (46 : Int) ∉ digitsL n := fun h => by have := digitsL_mem n 46 h; omega

theorem p10_pow (s : Nat) : p10 s = ((10 ^ s : Nat) : Int) := by
  induction s with
  | zero => rfl
  | succ s ih =>
    show p10 s * 10 = _
    rw [ih, Nat.pow_succ]
    push_cast
    rfl
theorem frac_len (n : Int) (s : Nat) (hs : 1 ≤ s) : (List.replicate (s - (digitsL (n % p10 s).toNat).length) (48 : Int) ++ digitsL (n % p10 s).toNat).length = s := by
  have hp : 0 < p10 s := by
    rw [p10_pow]
    exact_mod_cast Nat.pow_pos (by omega)
  have h1 := Int.emod_nonneg n (by omega : p10 s ≠ 0)
  have h2 := Int.emod_lt_of_pos n hp
  have hlt : (n % p10 s).toNat < 10 ^ (s - 1 + 1) := by
    rw [show s - 1 + 1 = s by omega]
    rw [p10_pow] at h1 h2 ⊢
    omega
  have := digitsL_len (s - 1) _ hlt
  rw [List.length_append, List.length_replicate]
  omega
theorem num_head (n : Int) (s : Nat) : ∃ d r, numL n s = d :: r ∧ 48 ≤ d ∧ d ≤ 57 := by
  unfold numL
  have h1 := digitsL_mem (n / p10 s).toNat
  cases hd : digitsL (n / p10 s).toNat with
  | nil =>
    have := digitsL_pos (n / p10 s).toNat
    rw [hd] at this
    simp at this
  | cons d r =>
    rw [hd] at h1
    exact ⟨d, _, rfl, h1 d (List.mem_cons_self ..)⟩
end Go.Proofs.YtoclingolfdfeaaGreatDoor

/- RdA -/
namespace Go.Proofs.YtoclingolfdfeaaGreatDoor
open Go.RowKit Go.Deep
set_option maxRecDepth 100000

def great (b : Int) : Bool := decide (65 ≤ b) && decide (b ≤ 90)
def gapB (b : Int) : Bool := b == 32 || b == 10
def ofPiece (b : Int) : Bool := letter b || great b || digit b
def digitHd : List Int → Bool
  | [] => false
  | d :: _ => digit d
/-- How long the piece is that begins here. -/
def pieceLen : List Int → Nat
  | [] => 0
  | b :: r => if (ofPiece b || (b == 46 && digitHd r)) = true then pieceLen r + 1 else 0
/-- How many great letters stand here. -/
def greatLen : List Int → Nat
  | [] => 0
  | b :: r => if great b = true then greatLen r + 1 else 0
theorem pieceLen_le : ∀ l : List Int, pieceLen l ≤ l.length
  | [] => Nat.le_refl _
  | b :: r => by
    unfold pieceLen
    have := pieceLen_le r
    split <;> simp <;> omega
theorem greatLen_le : ∀ l : List Int, greatLen l ≤ l.length
  | [] => Nat.le_refl _
  | b :: r => by
    unfold greatLen
    have := greatLen_le r
    split <;> simp <;> omega

/-- What lies ahead of the first point, and behind it. -/
def cutDot : List Int → List Int × List Int
  | [] => ([], [])
  | b :: r => if b = 46 then ([], r) else (b :: (cutDot r).1, (cutDot r).2)
theorem cutDot_at {a : List Int} (f : List Int) (ha : (46 : Int) ∉ a) : cutDot (a ++ 46 :: f) = (a, f) := by
  induction a with
  | nil => simp [cutDot]
  | cons x a ih =>
    have h1 : x ≠ 46 := fun e => ha (by rw [e]; exact List.mem_cons_self ..)
    have h2 := ih (fun h => ha (List.mem_cons_of_mem _ h))
    simp [cutDot, h1, h2]
theorem cutDot_none {a : List Int} (ha : (46 : Int) ∉ a) : cutDot a = (a, []) := by
  induction a with
  | nil => rfl
  | cons x a ih =>
    have h1 : x ≠ 46 := fun e => ha (by rw [e]; exact List.mem_cons_self ..)
    have h2 := ih (fun h => ha (List.mem_cons_of_mem _ h))
    simp [cutDot, h1, h2]
theorem valL_from (l : List Int) : ∀ a : Nat, l.foldl (fun a d => a * 10 + (d - 48).toNat) a = a * 10 ^ l.length + valL l := by
  unfold valL
  induction l with
  | nil => intro a; simp
  | cons x l ih =>
    intro a
    rw [List.foldl_cons, ih, List.foldl_cons, ih (0 * 10 + (x - 48).toNat), List.length_cons, Nat.pow_succ, Nat.add_mul, Nat.mul_assoc, Nat.mul_comm 10 (10 ^ l.length), Nat.zero_mul, Nat.zero_add]
    omega
theorem valL_append (a f : List Int) : valL (a ++ f) = valL a * 10 ^ f.length + valL f := by
  rw [show valL (a ++ f) = f.foldl (fun a d => a * 10 + (d - 48).toNat) (valL a) by unfold valL; rw [List.foldl_append], valL_from]
/-- A number's candidate. -/
def candB (l : List Int) : Int × Int := ((valL ((cutDot l).1 ++ (cutDot l).2) : Nat), ((cutDot l).2.length : Nat))
def candN : List Int → Int × Int
  | [] => (0, 0)
  | b :: r => if b = 45 then (-(candB r).1, (candB r).2) else candB (b :: r)
theorem numL_cut (m : Int) (k : Nat) : cutDot (numL m k) = (digitsL (m / p10 k).toNat, if k = 0 then [] else List.replicate (k - (digitsL (m % p10 k).toNat).length) 48 ++ digitsL (m % p10 k).toNat) := by
  unfold numL
  by_cases hk : k = 0
  · rw [if_pos hk, if_pos hk, List.append_nil, cutDot_none (dig_no _)]
  · rw [if_neg hk, if_neg hk, cutDot_at _ (dig_no _)]
theorem candB_num (m : Int) (k : Nat) (h0 : 0 ≤ m) : candB (numL m k) = (m, (k : Int)) := by
  unfold candB
  rw [numL_cut]
  have hp : 0 < p10 k := by
    rw [p10_pow]
    exact_mod_cast Nat.pow_pos (by omega)
  have b1 := Int.ediv_nonneg h0 (Int.le_of_lt hp)
  by_cases hk : k = 0
  · subst hk
    simp only [if_true, List.append_nil, List.length_nil]
    rw [valL_digits, show p10 0 = 1 from rfl, Int.ediv_one]
    simp
    omega
  · simp only [if_neg hk]
    rw [valL_append, frac_len m k (by omega), valL_zeros, valL_digits, valL_digits]
    have a1 := Int.emod_nonneg m (by omega : p10 k ≠ 0)
    have c1 := Int.mul_ediv_add_emod m (p10 k)
    refine Prod.ext ?_ rfl
    simp only
    push_cast
    rw [Int.toNat_of_nonneg b1, Int.toNat_of_nonneg a1]
    rw [p10_pow] at c1 ⊢
    push_cast at c1 ⊢
    rw [Int.mul_comm]
    exact c1
theorem candN_show {n s : Int} (hs : 0 ≤ s) : candN (showL 3 n s []) = (n, s) := by
  by_cases hn : n < 0
  · have e : showL 3 n s [] = 45 :: numL (-n) s.toNat := by simp [showL, hn]
    rw [e]
    simp only [candN, if_true]
    rw [candB_num _ _ (by omega)]
    refine Prod.ext ?_ ?_ <;> simp <;> omega
  · have e : showL 3 n s [] = numL n s.toNat := by simp [showL, hn]
    obtain ⟨d, r, e2, hd⟩ := num_head n s.toNat
    rw [e, e2]
    simp only [candN]
    rw [if_neg (by omega), ← e2, candB_num _ _ (by omega)]
    refine Prod.ext rfl ?_
    simp
    omega
/-- The number that is written so. -/
def numOf (raw : List Int) : Option (Int × Int) := if numOk (candN raw).1 (candN raw).2 = true ∧ showL 3 (candN raw).1 (candN raw).2 [] = raw then some (candN raw) else none
theorem numOf_some {raw : List Int} {n s : Int} : numOf raw = some (n, s) ↔ numOk n s = true ∧ showL 3 n s [] = raw := by
  unfold numOf
  constructor
  · intro h
    split at h
    · rename_i h1
      simp only [Option.some.injEq] at h
      rw [h] at h1
      exact h1
    · cases h
  · rintro ⟨h1, h2⟩
    have hs := (numOk_bounds h1).1
    have e : candN raw = (n, s) := by rw [← h2, candN_show hs]
    rw [e, if_pos ⟨h1, h2⟩]
/-- The number of a blank that is written so. -/
def blankOf (p : List Int) : Option Nat := if valL p ≤ 999999 ∧ digitsL (valL p) = p then some (valL p) else none
theorem blankOf_some {p : List Int} {n : Nat} : blankOf p = some n ↔ n ≤ 999999 ∧ digitsL n = p := by
  unfold blankOf
  constructor
  · intro h
    split at h
    · rename_i h1
      simp only [Option.some.injEq] at h
      rw [h] at h1
      exact h1
    · cases h
  · rintro ⟨h1, h2⟩
    have e : valL p = n := by rw [← h2, valL_digits]
    rw [e, if_pos ⟨h1, h2⟩]

/-- A text behind its first sign: what it says, and how long it is with its last sign. -/
def quoteF : Bool → List Int → Option (List Int × Nat)
  | _, [] => none
  | false, b :: r => if b = 34 then some ([], 1) else if b = 92 then (quoteF true r).map fun p => (p.1, p.2 + 1) else (quoteF false r).map fun p => (b :: p.1, p.2 + 1)
  | true, b :: r => if b = 34 ∨ b = 92 then (quoteF false r).map fun p => (b :: p.1, p.2 + 1) else none
theorem quoteF_esc (tx r : List Int) : quoteF false (esc tx ++ 34 :: r) = some (tx, (esc tx).length + 1) := by
  induction tx with
  | nil => simp [esc, quoteF]
  | cons b tx ih =>
    have e : esc (b :: tx) = (if b = 34 ∨ b = 92 then [92, b] else [b]) ++ esc tx := rfl
    rw [e]
    split
    · rename_i h
      simp only [List.cons_append, List.nil_append]
      rw [quoteF, if_neg (by omega), if_pos rfl, quoteF, if_pos h, ih]
      simp
    · rename_i h
      simp only [List.cons_append, List.nil_append]
      rw [quoteF, if_neg (by omega), if_neg (by omega), ih]
      simp
theorem quoteF_some : ∀ (r : List Int), (∀ tx m, quoteF false r = some (tx, m) → r.take m = esc tx ++ [34]) ∧ (∀ tx m, quoteF true r = some (tx, m) → (92 :: r).take (m + 1) = esc tx ++ [34])
  | [] => by simp [quoteF]
  | b :: r => by
    have ih := quoteF_some r
    refine ⟨fun tx m h => ?_, fun tx m h => ?_⟩
    · rw [quoteF] at h
      split at h
      · rename_i hb
        simp only [Option.some.injEq, Prod.mk.injEq] at h
        obtain ⟨rfl, rfl⟩ := h
        simp [hb, esc]
      · split at h
        · rename_i hb
          obtain ⟨⟨tx', m'⟩, h1, h2⟩ := Option.map_eq_some_iff.1 h
          simp only [Prod.mk.injEq] at h2
          obtain ⟨rfl, rfl⟩ := h2
          rw [hb]
          exact ih.2 _ _ h1
        · rename_i hb hb2
          obtain ⟨⟨tx', m'⟩, h1, h2⟩ := Option.map_eq_some_iff.1 h
          simp only [Prod.mk.injEq] at h2
          obtain ⟨rfl, rfl⟩ := h2
          have := ih.1 _ _ h1
          have e : esc (b :: tx') = (if b = 34 ∨ b = 92 then [92, b] else [b]) ++ esc tx' := rfl
          rw [e, if_neg (by omega), List.take_succ_cons, this]
          rfl
    · rw [quoteF] at h
      split at h
      · rename_i hb
        obtain ⟨⟨tx', m'⟩, h1, h2⟩ := Option.map_eq_some_iff.1 h
        simp only [Prod.mk.injEq] at h2
        obtain ⟨rfl, rfl⟩ := h2
        have := ih.1 _ _ h1
        have e : esc (b :: tx') = (if b = 34 ∨ b = 92 then [92, b] else [b]) ++ esc tx' := rfl
        rw [e, if_pos hb, List.take_succ_cons, List.take_succ_cons, this]
        rfl
      · cases h
theorem quoteF_le (r tx : List Int) (m : Nat) (h : quoteF false r = some (tx, m)) : m ≤ r.length := by
  suffices ∀ (r : List Int) (f : Bool) (tx : List Int) (m : Nat), quoteF f r = some (tx, m) → m ≤ r.length from this r false tx m h
  intro r
  induction r with
  | nil => intro f tx m h; cases f <;> simp [quoteF] at h
  | cons b r ih =>
    intro f tx m h
    cases f with
    | false =>
      rw [quoteF] at h
      split at h
      · simp only [Option.some.injEq, Prod.mk.injEq] at h
        simp
        omega
      · split at h
        · obtain ⟨⟨tx', m'⟩, h1, h2⟩ := Option.map_eq_some_iff.1 h
          have := ih _ _ _ h1
          simp only [Prod.mk.injEq] at h2
          simp
          omega
        · obtain ⟨⟨tx', m'⟩, h1, h2⟩ := Option.map_eq_some_iff.1 h
          have := ih _ _ _ h1
          simp only [Prod.mk.injEq] at h2
          simp
          omega
    | true =>
      rw [quoteF] at h
      split at h
      · obtain ⟨⟨tx', m'⟩, h1, h2⟩ := Option.map_eq_some_iff.1 h
        have := ih _ _ _ h1
        simp only [Prod.mk.injEq] at h2
        simp
        omega
      · cases h

/-- A token: 0 a term, 1 a variable, 2 a word, 3 a sign; its bytes; its term. -/
structure PT where
  kind : Nat
  raw : List Int
  td : TD
def td0 : TD := ⟨0, [], 0, 0⟩
def signB (b : Int) : Bool := [46, 123, 125, 40, 41, 42, 43, 45, 47, 61, 60, 38, 124].contains b
/-- The token that a text begins with. -/
def tokOf : List Int → Option PT
  | [] => none
  | b :: r =>
    if (digit b || (b == 45 && digitHd r)) = true then (numOf (b :: r.take (pieceLen r))).map fun p => ⟨0, b :: r.take (pieceLen r), ⟨3, [], p.1, p.2⟩⟩
    else if (b == 60 && nameOk (r.take (pieceLen r)) && (r.drop (pieceLen r))[0]? == some 62) = true then some ⟨0, 60 :: (r.take (pieceLen r) ++ [62]), ⟨0, r.take (pieceLen r), 0, 0⟩⟩
    else if b = 34 then (quoteF false r).bind fun p => if textOk p.1 = true then some ⟨0, 34 :: r.take p.2, ⟨2, p.1, 0, 0⟩⟩ else none
    else if (b == 95 && r[0]? == some 58) = true then (blankOf ((r.drop 1).take (pieceLen (r.drop 1)))).map fun n => ⟨0, 95 :: 58 :: (r.drop 1).take (pieceLen (r.drop 1)), ⟨1, [], n, 0⟩⟩
    else if (b == 63 && nameOk (r.take (pieceLen r))) = true then some ⟨1, 63 :: r.take (pieceLen r), td0⟩
    else if great b = true then some ⟨2, (b :: r).take (greatLen (b :: r)), td0⟩
    else if signB b = true then some ⟨3, [b], td0⟩ else none
end Go.Proofs.YtoclingolfdfeaaGreatDoor

/- RdB -/
namespace Go.Proofs.YtoclingolfdfeaaGreatDoor
open Go.RowKit Go.Deep
set_option maxRecDepth 100000

theorem nums_at (s : ByteArray) (k : Nat) (h : k < s.size) : (numsOf s)[k]? = some ((s[k].toNat : Nat) : Int) := by
  have h' : k < s.data.toList.length := by simpa using h
  simp only [numsOf, List.getElem?_map, List.getElem?_eq_getElem h', Option.map_some]
  rfl
theorem nums_drop (s : ByteArray) (k : Nat) (h : k < s.size) : (numsOf s).drop k = ((s[k].toNat : Nat) : Int) :: (numsOf s).drop (k + 1) := by
  have h' : k < (numsOf s).length := by rw [numsOf_len]; exact h
  rw [List.drop_eq_getElem_cons h']
  have := nums_at s k h
  rw [List.getElem?_eq_getElem h'] at this
  rw [Option.some.inj this]
theorem nums_end (s : ByteArray) (k : Nat) (h : ¬ k < s.size) : (numsOf s).drop k = [] := List.drop_of_length_le (by rw [numsOf_len]; omega)
theorem nums_extract (s : ByteArray) (a b : Nat) : numsOf (s.extract a b) = ((numsOf s).drop a).take (b - a) := by
  unfold numsOf
  rw [← List.map_drop, ← List.map_take]
  congr 1
  simp [ByteArray.data_extract, Array.toList_extract, List.extract_eq_take_drop]

theorem great_any (b : Int) (w : World) : Calls Tryz.prog 145 #[.int .u8 b] w fun e w' => e = .returned (.bool (great b)) ∧ w' = w := by
  go_enter Tryz.func145, Tryz.ntmps145
  go_wp2
  all_goals go_ret
  all_goals (refine ⟨?_, rfl⟩; simp [great]; try omega)
theorem gap_any (b : Int) (w : World) : Calls Tryz.prog 96 #[.int .u8 b] w fun e w' => e = .returned (.bool (gapB b)) ∧ w' = w := by
  go_enter Tryz.func96, Tryz.ntmps96
  go_wp2
  all_goals go_ret
  all_goals (refine ⟨congrArg (fun b => Ending.returned (Value.bool b)) ?_, rfl⟩; rw [Bool.eq_iff_iff]; simp_all [gapB])
theorem ofPiece_any (b : Int) (w : World) : Calls Tryz.prog 163 #[.int .u8 b] w fun e w' => e = .returned (.bool (ofPiece b)) ∧ w' = w := by
  unfold ofPiece
  cases h1 : letter b <;> cases h2 : great b <;> cases h3 : digit b
  all_goals
    go_enter Tryz.func163, Tryz.ntmps163
    go_wp2_with (first | (go_at_call 66; refine (letter_any _ _).mono ?_; rintro e w2 ⟨rfl, rfl⟩; try rw [h1]) | (go_at_call 145; refine (great_any _ _).mono ?_; rintro e w3 ⟨rfl, rfl⟩; try rw [h2]) | (go_at_call 67; refine (digit_any _ _).mono ?_; rintro e w3 ⟨rfl, rfl⟩; try rw [h3]))
    go_ret
    exact ⟨rfl, rfl⟩
theorem isDigitAt_any (s : ByteArray) (k : Nat) (w : World) : Calls Tryz.prog 137 #[.string s, .int .i64 k] w fun e w' => e = .returned (.bool (digitHd ((numsOf s).drop k))) ∧ w' = w := by
  by_cases h : k < s.size
  · rw [nums_drop s k h]
    show Calls _ _ _ _ fun e w' => e = .returned (.bool (digit ((s[k].toNat : Nat) : Int))) ∧ _
    go_enter Tryz.func137, Tryz.ntmps137
    go_wp2_with (first | (go_at_call 67; refine (digit_any _ _).mono ?_; rintro e w1 ⟨rfl, rfl⟩))
    go_ret
    exact ⟨rfl, rfl⟩
  · rw [nums_end s k h]
    show Calls _ _ _ _ fun e w' => e = .returned (.bool false) ∧ _
    go_enter Tryz.func137, Tryz.ntmps137
    go_wp2_with fail
    go_ret
    exact ⟨rfl, rfl⟩
theorem pieceLen_yes {b : Int} {r : List Int} (h : (ofPiece b || (b == 46 && digitHd r)) = true) : pieceLen (b :: r) = pieceLen r + 1 := by rw [pieceLen, if_pos h]
theorem pieceLen_no {b : Int} {r : List Int} (h : (ofPiece b || (b == 46 && digitHd r)) = false) : pieceLen (b :: r) = 0 := by rw [pieceLen, if_neg (by rw [h]; decide)]

theorem withPiece_any (s : ByteArray) (f : Nat) (w : World) (hf : f ≤ s.size) (hs : s.size ≤ 1048576) :
    Calls Tryz.prog 138 #[.string s, .int .i64 f] w fun e w' => e = .returned (.string (s.extract 0 (f + pieceLen ((numsOf s).drop f)))) ∧ w' = w := by
  have hL := pieceLen_le ((numsOf s).drop f)
  rw [List.length_drop, numsOf_len] at hL
  generalize hE : f + pieceLen ((numsOf s).drop f) = E at *
  have HE : Hid (f + pieceLen ((numsOf s).drop f) = E) := hE
  have hEs : E ≤ s.size := by omega
  clear hE hL
  go_enter Tryz.func138, Tryz.ntmps138
  go_wp2_with fail
  go_loop [5] (fun i => ∃ k : Nat, k ≤ s.size ∧ i = .int .i64 k ∧ k + pieceLen ((numsOf s).drop k) = E)
    (fun i => s.size - (intOf i).toNat)
  case atStart => exact ⟨f, hf, rfl, HE.out⟩
  case round =>
    obtain ⟨k, hk, rfl, hH⟩ := hrel
    have HH : Hid (k + pieceLen ((numsOf s).drop k) = E) := hH
    clear hH HE
    by_cases hlt : k < s.size
    · have hd := nums_drop s k hlt
      have D := isDigitAt_any s (k + 1) 
      have HD : Hid ((numsOf s).drop k = ((s[k].toNat : Nat) : Int) :: (numsOf s).drop (k + 1)) := hd
      clear hd
      generalize hx : ((s[k].toNat : Nat) : Int) = x at *
      generalize hq : digitHd ((numsOf s).drop (k + 1)) = q at *
      have HQ : Hid (digitHd ((numsOf s).drop (k + 1)) = q) := hq
      clear hq
      have D' : ∀ w : World, Calls Tryz.prog 137 #[.string s, .int .i64 ((k : Int) + 1)] w fun e w' => e = .returned (.bool q) ∧ w' = w := fun w => D w
      clear D
      cases h1 : ofPiece x
      · by_cases h2 : x = 46
        · have h2' : (x == 46) = true := by simp [h2]
          cases q
          · go_wp2_with (first | (go_at_call 163; refine (ofPiece_any _ _).mono ?_; rintro e w2 ⟨rfl, rfl⟩; try rw [hx]; try rw [h1]) | (go_at_call 137; refine (D' _).mono ?_; rintro e w3 ⟨rfl, rfl⟩))
            have e := HH.out
            rw [HD.out, pieceLen_no (by simp [h1, HQ.out, h2'])] at e
            obtain rfl : k = E := by omega
            go_ret
            exact ⟨rfl, rfl⟩
          · go_wp2_with (first | (go_at_call 163; refine (ofPiece_any _ _).mono ?_; rintro e w2 ⟨rfl, rfl⟩; try rw [hx]; try rw [h1]) | (go_at_call 137; refine (D' _).mono ?_; rintro e w3 ⟨rfl, rfl⟩))
            go_round
            case rel => exact ⟨k + 1, by omega, by go_num, by
              have e := HH.out
              rw [HD.out, pieceLen_yes (by simp [h1, HQ.out, h2'])] at e
              omega⟩
            case measure => simp [intOf]; omega
        · have h2' : (x == 46) = false := by simp [h2]
          clear h2
          go_wp2_with (first | (go_at_call 163; refine (ofPiece_any _ _).mono ?_; rintro e w2 ⟨rfl, rfl⟩; try rw [hx]; try rw [h1]) | (go_at_call 137; refine (D' _).mono ?_; rintro e w3 ⟨rfl, rfl⟩))
          have e := HH.out
          rw [HD.out, pieceLen_no (by simp [h1, HQ.out, h2'])] at e
          obtain rfl : k = E := by omega
          go_ret
          exact ⟨rfl, rfl⟩
      · go_wp2_with (first | (go_at_call 163; refine (ofPiece_any _ _).mono ?_; rintro e w2 ⟨rfl, rfl⟩; try rw [hx]; try rw [h1]) | (go_at_call 137; refine (D' _).mono ?_; rintro e w3 ⟨rfl, rfl⟩))
        go_round
        case rel => exact ⟨k + 1, by omega, by go_num, by
          have e := HH.out
          rw [HD.out, pieceLen_yes (by simp [h1])] at e
          omega⟩
        case measure => simp [intOf]; omega
    · have e := HH.out
      rw [nums_end s k hlt] at e
      obtain rfl : k = E := by simpa [pieceLen] using e
      clear e
      go_wp2_with fail
      go_ret
      exact ⟨rfl, rfl⟩

theorem wordLength_any (s : ByteArray) (w : World) (hs : s.size ≤ 1048576) :
    Calls Tryz.prog 146 #[.string s] w fun e w' => e = .returned (.int .i64 (greatLen (numsOf s) : Nat)) ∧ w' = w := by
  have hL := greatLen_le (numsOf s)
  rw [numsOf_len] at hL
  generalize hE : greatLen (numsOf s) = E at *
  have HE : Hid (greatLen (numsOf s) = E) := hE
  clear hE
  go_enter Tryz.func146, Tryz.ntmps146
  go_wp2_with fail
  go_loop [3] (fun i => ∃ k : Nat, k ≤ s.size ∧ i = .int .i64 k ∧ k + greatLen ((numsOf s).drop k) = E)
    (fun i => s.size - (intOf i).toNat)
  case atStart => exact ⟨0, Nat.zero_le _, rfl, by rw [List.drop_zero, Nat.zero_add]; exact HE.out⟩
  case round =>
    obtain ⟨k, hk, rfl, hH⟩ := hrel
    have HH : Hid (k + greatLen ((numsOf s).drop k) = E) := hH
    clear hH HE
    by_cases hlt : k < s.size
    · have HD : Hid ((numsOf s).drop k = ((s[k].toNat : Nat) : Int) :: (numsOf s).drop (k + 1)) := nums_drop s k hlt
      generalize hx : ((s[k].toNat : Nat) : Int) = x at *
      cases h1 : great x
      · go_wp2_with (first | (go_at_call 145; refine (great_any _ _).mono ?_; rintro e w2 ⟨rfl, rfl⟩; try rw [hx]; try rw [h1]))
        have e := HH.out
        rw [HD.out, greatLen, if_neg (by rw [h1]; decide)] at e
        obtain rfl : k = E := by omega
        go_ret
        exact ⟨rfl, rfl⟩
      · go_wp2_with (first | (go_at_call 145; refine (great_any _ _).mono ?_; rintro e w2 ⟨rfl, rfl⟩; try rw [hx]; try rw [h1]))
        go_round
        case rel => exact ⟨k + 1, by omega, by go_num, by
          have e := HH.out
          rw [HD.out, greatLen, if_pos h1] at e
          omega⟩
        case measure => simp [intOf]; omega
    · have e := HH.out
      rw [nums_end s k hlt] at e
      obtain rfl : k = E := by simpa [greatLen] using e
      clear e
      go_wp2_with fail
      go_ret
      exact ⟨rfl, rfl⟩

/-- How far a text goes behind its first sign. -/
def qlen : Bool → List Int → Nat
  | _, [] => 0
  | true, _ :: r => qlen false r + 1
  | false, b :: r => if b = 34 then 1 else if b = 92 then qlen true r + 1 else qlen false r + 1
theorem qlen_le : ∀ (r : List Int) (f : Bool), qlen f r ≤ r.length
  | [], f => by cases f <;> simp [qlen]
  | b :: r, true => by have := qlen_le r false; simp [qlen]; omega
  | b :: r, false => by
    have h1 := qlen_le r false
    have h2 := qlen_le r true
    rw [qlen]
    split
    · simp
    · split <;> simp <;> omega
theorem quotedLength_any (s : ByteArray) (w : World) (h1 : 1 ≤ s.size) (hs : s.size ≤ 1048576) :
    Calls Tryz.prog 142 #[.string s] w fun e w' => e = .returned (.int .i64 ((1 + qlen false ((numsOf s).drop 1) : Nat))) ∧ w' = w := by
  have hL := qlen_le ((numsOf s).drop 1) false
  rw [List.length_drop, numsOf_len] at hL
  generalize hE : 1 + qlen false ((numsOf s).drop 1) = E at *
  have HE : Hid (1 + qlen false ((numsOf s).drop 1) = E) := hE
  have hEs : E ≤ s.size := by omega
  clear hE hL
  go_enter Tryz.func142, Tryz.ntmps142
  go_wp2_with fail
  go_loop [3] (fun i => ∃ k : Nat, k ≤ s.size + 1 ∧ i = .int .i64 k ∧ ((k ≤ s.size ∧ k + qlen false ((numsOf s).drop k) = E) ∨ (s.size < k ∧ E = s.size)))
    (fun i => s.size + 1 - (intOf i).toNat)
  case atStart => exact ⟨1, by omega, rfl, .inl ⟨h1, HE.out⟩⟩
  case round =>
    obtain ⟨k, hk, rfl, hH⟩ := hrel
    have HH : Hid ((k ≤ s.size ∧ k + qlen false ((numsOf s).drop k) = E) ∨ (s.size < k ∧ E = s.size)) := hH
    clear hH HE h1
    by_cases hlt : k < s.size
    · have HD : Hid ((numsOf s).drop k = ((s[k].toNat : Nat) : Int) :: (numsOf s).drop (k + 1)) := nums_drop s k hlt
      have HF : Hid (k + qlen false ((numsOf s).drop k) = E) := by
        rcases HH.out with h | h
        · exact h.2
        · omega
      clear HH
      generalize hx : ((s[k].toNat : Nat) : Int) = x at *
      by_cases h1 : x = 92
      · subst h1
        have hE : Hid (k + (qlen true ((numsOf s).drop (k + 1)) + 1) = E) := by
          have e := HF.out
          rw [HD.out, qlen, if_neg (by decide), if_pos rfl] at e
          exact e
        clear HF HD
        go_wp2_with fail
        go_round
        case rel =>
          refine ⟨k + 2, by omega, by go_num, ?_⟩
          have e := hE.out
          by_cases h2 : k + 1 < s.size
          · rw [nums_drop s (k + 1) h2, qlen] at e
            exact .inl ⟨by omega, by rw [show k + 2 = k + 1 + 1 from rfl]; omega⟩
          · rw [nums_end s (k + 1) h2, qlen] at e
            exact .inr ⟨by omega, by omega⟩
        case measure => simp [intOf]; omega
      · by_cases h2 : x = 34
        · subst h2
          have e := HF.out
          rw [HD.out, qlen, if_pos rfl] at e
          subst e
          clear HF HD h1
          go_wp2_with fail
          go_ret
          exact ⟨by go_num, rfl⟩
        · have hE : Hid (k + (qlen false ((numsOf s).drop (k + 1)) + 1) = E) := by
            have e := HF.out
            rw [HD.out, qlen, if_neg h2, if_neg h1] at e
            exact e
          have h1' : (x == 92) = false := by simp [h1]
          have h2' : (x == 34) = false := by simp [h2]
          clear HF HD h1 h2
          go_wp2_with fail
          go_round
          case rel => exact ⟨k + 1, by omega, by go_num, .inl ⟨by omega, by have e := hE.out; omega⟩⟩
          case measure => simp [intOf]; omega
    · have e : E = s.size := by
        rcases HH.out with h | h
        · rw [nums_end s k hlt, qlen] at h
          omega
        · exact h.2
      subst e
      clear HH
      go_wp2_with fail
      go_ret
      exact ⟨rfl, rfl⟩
end Go.Proofs.YtoclingolfdfeaaGreatDoor

/- TriA -/
namespace Go.Proofs.YtoclingolfdfeaaGreatDoor
open Go.RowKit Go.Deep

/-- A term's parts: kind, text's place, length and room, number, scale. -/
structure Tm where
  k : Int
  a : Option Addr
  len : Nat
  cap : Nat
  n : Int
  s : Int
/-- A term whose text lies in a block of its own. -/
def Tm.own (t : Tm) (g : Nat) : Tm := ⟨t.k, some ⟨g, 0, none⟩, t.len, t.len, t.n, t.s⟩
/-- Its numbers are of 64 bits. -/
def Tm.fits (t : Tm) : Prop := -9223372036854775808 ≤ t.n ∧ t.n ≤ 9223372036854775807 ∧ -9223372036854775808 ≤ t.s ∧ t.s ≤ 9223372036854775807
/-- Three terms in a row from place o on in block b. -/
def At12 (w : World) (b : Nat) (t u v : Tm) : Prop :=
  b < w.heap.size ∧
    (w.cell? ⟨b, 0, none⟩ = some (.int .i64 t.k) ∧ w.cell? ⟨b, 1, none⟩ = some (.slice t.a t.len t.cap) ∧ w.cell? ⟨b, 2, none⟩ = some (.int .i64 t.n) ∧ w.cell? ⟨b, 3, none⟩ = some (.int .i64 t.s)) ∧
    (w.cell? ⟨b, 4, none⟩ = some (.int .i64 u.k) ∧ w.cell? ⟨b, 5, none⟩ = some (.slice u.a u.len u.cap) ∧ w.cell? ⟨b, 6, none⟩ = some (.int .i64 u.n) ∧ w.cell? ⟨b, 7, none⟩ = some (.int .i64 u.s)) ∧
    (w.cell? ⟨b, 8, none⟩ = some (.int .i64 v.k) ∧ w.cell? ⟨b, 9, none⟩ = some (.slice v.a v.len v.cap) ∧ w.cell? ⟨b, 10, none⟩ = some (.int .i64 v.n) ∧ w.cell? ⟨b, 11, none⟩ = some (.int .i64 v.s))
theorem At12.below {w w' : World} {b : Nat} {t u v : Tm} (h : At12 w b t u v) (hb : Below w.heap.size w w') : At12 w' b t u v := by
  obtain ⟨hl, h⟩ := h
  have e : ∀ i, w'.cell? ⟨b, i, none⟩ = w.cell? ⟨b, i, none⟩ := fun i => hb.cell (p := ⟨b, i, none⟩) hl
  refine ⟨Nat.lt_of_lt_of_le hl hb.size, ?_⟩
  simp only [e]
  exact h
/-- .. and they may be written. -/
def Own12 (w : World) (b : Nat) (t u v : Tm) : Prop := At12 w b t u v ∧ ∀ i, i < 12 → w.frozen? ⟨b, i, none⟩ = false
theorem Own12.below {w w' : World} {b : Nat} {t u v : Tm} (h : Own12 w b t u v) (hb : Below w.heap.size w w') : Own12 w' b t u v :=
  ⟨h.1.below hb, fun i hi => (hb.frozen (p := ⟨b, i, none⟩) h.1.1).trans (h.2 i hi)⟩
def cells12 (t u v : Tm) : Array Value := #[.int .i64 t.k, .slice t.a t.len t.cap, .int .i64 t.n, .int .i64 t.s, .int .i64 u.k, .slice u.a u.len u.cap, .int .i64 u.n, .int .i64 u.s, .int .i64 v.k, .slice v.a v.len v.cap, .int .i64 v.n, .int .i64 v.s]
theorem Own12.at (w : World) (b : Nat) (t u v : Tm) (T : TypeId) (e : b = w.heap.size) : Own12 (w.alloc (.cells (cells12 t u v) T)) b t u v := by
  subst e
  refine ⟨⟨by simp, ⟨?_, ?_, ?_, ?_⟩, ⟨?_, ?_, ?_, ?_⟩, ⟨?_, ?_, ?_, ?_⟩⟩, fun i hi => ?_⟩
  all_goals simp [go_sem, cells12]
/-- A term's four cells written at places i, i+1, i+2, i+3. -/
def put4 (w : World) (b i0 i1 i2 i3 : Nat) (t : Tm) : World := (((w.setCell ⟨b, i0, none⟩ (.int .i64 t.k)).setCell ⟨b, i1, none⟩ (.slice t.a t.len t.cap)).setCell ⟨b, i2, none⟩ (.int .i64 t.n)).setCell ⟨b, i3, none⟩ (.int .i64 t.s)
theorem put4_size {w : World} {b i0 i1 i2 i3 : Nat} {x : Tm} : (put4 w b i0 i1 i2 i3 x).heap.size = w.heap.size := by simp [put4]
theorem Bs.put {w : World} {g len : Nat} {bs : List Int} {c i0 i1 i2 i3 : Nat} {x : Tm} (h : Bs w (some ⟨g, 0, none⟩) len bs) (hne : g ≠ c) : Bs (put4 w c i0 i1 i2 i3 x) (some ⟨g, 0, none⟩) len bs := by
  obtain ⟨h1, h2, h3, h4⟩ := h
  refine ⟨h1, h2, h3, ?_⟩
  rcases h4 with h4 | ⟨b', off, ha, hlt, hc⟩
  · exact .inl h4
  · cases ha
    refine .inr ⟨g, 0, rfl, by rw [put4_size]; exact hlt, fun i hi => ?_⟩
    unfold put4
    rw [World.cell?_of_block (Below.heap_setCell _ _ _ _ (by exact hne)), World.cell?_of_block (Below.heap_setCell _ _ _ _ (by exact hne)), World.cell?_of_block (Below.heap_setCell _ _ _ _ (by exact hne)), World.cell?_of_block (Below.heap_setCell _ _ _ _ (by exact hne))]
    exact hc i hi
theorem OwnT.put {w : World} {g len : Nat} {bs : List Int} {c i0 i1 i2 i3 : Nat} {x : Tm} (h : OwnT w g len bs) (hne : g ≠ c) : OwnT (put4 w c i0 i1 i2 i3 x) g len bs := by
  obtain ⟨h1, h2, h3, h4⟩ := h
  have e : ∀ i, (put4 w c i0 i1 i2 i3 x).cell? ⟨g, i, none⟩ = w.cell? ⟨g, i, none⟩ := fun i => by
    unfold put4
    rw [World.cell?_of_block (Below.heap_setCell _ _ _ _ (by exact hne)), World.cell?_of_block (Below.heap_setCell _ _ _ _ (by exact hne)), World.cell?_of_block (Below.heap_setCell _ _ _ _ (by exact hne)), World.cell?_of_block (Below.heap_setCell _ _ _ _ (by exact hne))]
  exact ⟨h1.put hne, by rw [put4_size]; exact h2, fun i hi => by rw [e i]; exact h3 i hi, fun i hi => by simp [put4, h4 i hi]⟩
end Go.Proofs.YtoclingolfdfeaaGreatDoor
