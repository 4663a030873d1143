/- Comparing terms is an order: plain facts. -/
import Derived.Test.YtjhobhkdncdnaaaCmpD
namespace Go.Proofs.Ytjhobhkdncdnaaa
open Go.RowKit Go.Deep

/-- A comparison that answers -1, 0, 1, that turns its sign when its two sides change places, and that goes on from one to the next. -/
structure Ord3 {α : Type} (c : α → α → Int) : Prop where
  rng : ∀ x y, c x y = -1 ∨ c x y = 0 ∨ c x y = 1
  anti : ∀ x y, c x y = - c y x
  trans : ∀ x y z, c x y ≤ 0 → c y z ≤ 0 → c x z ≤ 0
theorem Ord3.self {α : Type} {c : α → α → Int} (h : Ord3 c) (x : α) : c x x = 0 := by have := h.anti x x; omega
theorem Ord3.lex {α : Type} {c d : α → α → Int} (h : Ord3 c) (k : Ord3 d) : Ord3 (fun x y => orI (c x y) (d x y)) := by
  refine ⟨fun x y => ?_, fun x y => ?_, fun x y z h1 h2 => ?_⟩
  · unfold orI
    split
    · exact k.rng x y
    · exact h.rng x y
  · have e := h.anti x y
    have f := k.anti x y
    unfold orI
    by_cases c0 : c x y = 0
    · rw [if_pos c0, if_pos (by omega)]; exact f
    · rw [if_neg c0, if_neg (by omega)]; exact e
  · have p1 : c x y ≤ 0 := by
      unfold orI at h1
      split at h1 <;> omega
    have p2 : c y z ≤ 0 := by
      unfold orI at h2
      split at h2 <;> omega
    have p3 := h.trans x y z p1 p2
    show orI (c x z) (d x z) ≤ 0
    unfold orI
    by_cases c0 : c x z = 0
    · rw [if_pos c0]
      have a1 := h.anti x z
      have a2 := h.anti x y
      have a3 := h.anti y z
      have q1 := h.trans y z x p2 (by omega)
      have q2 := h.trans z x y (by omega) p1
      have e1 : c x y = 0 := by omega
      have e2 : c y z = 0 := by omega
      have h1' : d x y ≤ 0 := by
        have : orI (c x y) (d x y) ≤ 0 := h1
        unfold orI at this
        rwa [if_pos e1] at this
      have h2' : d y z ≤ 0 := by
        have : orI (c y z) (d y z) ≤ 0 := h2
        unfold orI at this
        rwa [if_pos e2] at this
      exact k.trans x y z h1' h2'
    · rw [if_neg c0]; exact p3
theorem Ord3.key {α : Type} (f : α → Int) : Ord3 (fun x y => cmpI (f x) (f y)) := by
  refine ⟨fun x y => ?_, fun x y => ?_, fun x y z h1 h2 => ?_⟩
  · unfold cmpI
    split
    · simp
    · split <;> simp
  · unfold cmpI
    by_cases c1 : f x < f y
    · rw [if_pos c1, if_neg (by omega), if_pos c1]
    · by_cases c2 : f y < f x
      · rw [if_neg c1, if_pos c2, if_pos c2]; rfl
      · rw [if_neg c1, if_neg c2, if_neg c2, if_neg c1]; rfl
  · have g : ∀ a b : Int, cmpI a b ≤ 0 ↔ a ≤ b := by
      intro a b
      unfold cmpI
      by_cases c1 : a < b
      · rw [if_pos c1]; omega
      · by_cases c2 : b < a
        · rw [if_neg c1, if_pos c2]; omega
        · rw [if_neg c1, if_neg c2]; omega
    have h1 := (g _ _).1 h1
    have h2 := (g _ _).1 h2
    exact (g _ _).2 (by omega)

theorem cb_rng : ∀ xs ys : List UInt8, Lib.compareBytes xs ys = -1 ∨ Lib.compareBytes xs ys = 0 ∨ Lib.compareBytes xs ys = 1
  | [], [] => by simp [Lib.compareBytes]
  | [], _ :: _ => by simp [Lib.compareBytes]
  | _ :: _, [] => by simp [Lib.compareBytes]
  | a :: ar, b :: br => by
    unfold Lib.compareBytes
    split
    · simp
    · split
      · simp
      · exact cb_rng ar br
theorem u8_lt (a b : UInt8) : a < b ↔ a.toNat < b.toNat := UInt8.lt_iff_toNat_lt
theorem u8_eq {a b : UInt8} (h1 : ¬ a < b) (h2 : ¬ b < a) : a = b := by
  rw [u8_lt] at h1 h2
  exact UInt8.toNat_inj.1 (by omega)
theorem cb_anti : ∀ xs ys : List UInt8, Lib.compareBytes xs ys = - Lib.compareBytes ys xs
  | [], [] => by simp [Lib.compareBytes]
  | [], _ :: _ => by simp [Lib.compareBytes]
  | _ :: _, [] => by simp [Lib.compareBytes]
  | a :: ar, b :: br => by
    unfold Lib.compareBytes
    by_cases h1 : a < b
    · have h2 : ¬ b < a := by rw [u8_lt] at *; omega
      rw [if_pos h1, if_neg h2, if_pos h1]
    · by_cases h2 : b < a
      · rw [if_neg h1, if_pos h2, if_pos h2]; rfl
      · rw [if_neg h1, if_neg h2, if_neg h2, if_neg h1]
        exact cb_anti ar br
theorem cb_trans : ∀ xs ys zs : List UInt8, Lib.compareBytes xs ys ≤ 0 → Lib.compareBytes ys zs ≤ 0 → Lib.compareBytes xs zs ≤ 0
  | [], _, [] => by simp [Lib.compareBytes]
  | [], _, _ :: _ => by simp [Lib.compareBytes]
  | _ :: _, [], _ => by simp [Lib.compareBytes]
  | _ :: _, _ :: _, [] => by simp [Lib.compareBytes]
  | a :: ar, b :: br, c :: cr => by
    unfold Lib.compareBytes
    intro h1 h2
    by_cases a1 : a < b
    · by_cases b1 : b < c
      · have : a < c := by rw [u8_lt] at *; omega
        rw [if_pos this]; omega
      · by_cases b2 : c < b
        · rw [if_neg b1, if_pos b2] at h2; omega
        · have := u8_eq b1 b2
          subst this
          rw [if_pos a1]; omega
    · by_cases a2 : b < a
      · rw [if_neg a1, if_pos a2] at h1; omega
      · have := u8_eq a1 a2
        subst this
        rw [if_neg a1, if_neg a1] at h1
        by_cases b1 : a < c
        · rw [if_pos b1]; omega
        · by_cases b2 : c < a
          · rw [if_neg b1, if_pos b2] at h2; omega
          · rw [if_neg b1, if_neg b2] at h2 ⊢
            exact cb_trans ar br cr h1 h2
theorem cb_zero : ∀ xs ys : List UInt8, Lib.compareBytes xs ys = 0 → xs = ys
  | [], [] => fun _ => rfl
  | [], _ :: _ => by simp [Lib.compareBytes]
  | _ :: _, [] => by simp [Lib.compareBytes]
  | a :: ar, b :: br => by
    unfold Lib.compareBytes
    intro h
    by_cases h1 : a < b
    · rw [if_pos h1] at h; omega
    · by_cases h2 : b < a
      · rw [if_neg h1, if_pos h2] at h; omega
      · rw [if_neg h1, if_neg h2] at h
        rw [u8_eq h1 h2, cb_zero ar br h]
theorem bytesOf_inj {xs ys : List Int} (hx : ∀ i : Nat, 0 ≤ xs[i]?.getD 0 ∧ xs[i]?.getD 0 ≤ 255) (hy : ∀ i : Nat, 0 ≤ ys[i]?.getD 0 ∧ ys[i]?.getD 0 ≤ 255) (h : Lib.bytesOf xs = Lib.bytesOf ys) : xs = ys := by
  have hl : xs.length = ys.length := by
    have := congrArg List.length h
    simpa [Lib.bytesOf] using this
  refine List.ext_getElem? fun i => ?_
  by_cases hi : i < xs.length
  · have h1 := congrArg (fun l => l[i]?) h
    simp only [Lib.bytesOf, List.getElem?_map, List.getElem?_eq_getElem hi, List.getElem?_eq_getElem (show i < ys.length by omega), Option.map_some, Option.some.injEq] at h1
    have hx' := hx i
    have hy' := hy i
    rw [List.getElem?_eq_getElem hi] at hx' ⊢
    rw [List.getElem?_eq_getElem (show i < ys.length by omega)] at hy' ⊢
    simp only [Option.getD_some] at hx' hy'
    have h2 := congrArg UInt8.toNat h1
    simp only [UInt8.toNat_ofNat'] at h2
    congr 1
    omega
  · rw [List.getElem?_eq_none (by omega), List.getElem?_eq_none (by omega)]

/-- A term's parts. -/
structure TD where
  k : Int
  bs : List Int
  n : Int
  s : Int
def TD.ok (x : TD) : Bool := termOk x.k x.bs x.n x.s
def TD.cmp (x y : TD) : Int := cmp3 (cmpI x.k y.k) (cmpB x.bs y.bs) (cmpN x.n x.s.toNat y.n y.s.toNat)
def TD.cT (x y : TD) : Int := cmpT x.ok y.ok (x.cmp y)
theorem ord_cmpB : Ord3 (fun x y : TD => cmpB x.bs y.bs) := ⟨fun _ _ => cb_rng _ _, fun _ _ => cb_anti _ _, fun _ _ _ => cb_trans _ _ _⟩
theorem ord_cmp : Ord3 TD.cmp := Ord3.lex (Ord3.key TD.k) (Ord3.lex ord_cmpB (Ord3.lex (Ord3.key fun x : TD => x.n.tdiv (p10 x.s.toNat)) (Ord3.key fun x : TD => restOf x.n x.s.toNat)))
theorem ord_cT : Ord3 TD.cT := by
  refine ⟨fun x y => ?_, fun x y => ?_, fun x y z => ?_⟩
  · have := ord_cmp.rng x y
    unfold TD.cT cmpT
    cases x.ok <;> cases y.ok <;> simp_all
  · have := ord_cmp.anti x y
    unfold TD.cT cmpT
    cases x.ok <;> cases y.ok <;> simp_all
  · have := ord_cmp.trans x y z
    unfold TD.cT cmpT
    cases x.ok <;> cases y.ok <;> cases z.ok <;> simp_all

theorem cmpI_zero {a b : Int} (h : cmpI a b = 0) : a = b := by
  unfold cmpI at h
  split at h
  · omega
  · split at h <;> omega
theorem orI_zero {a b : Int} (h : orI a b = 0) : a = 0 ∧ b = 0 := by
  unfold orI at h
  split at h
  · exact ⟨by assumption, h⟩
  · omega
theorem scaled (n : Int) (s : Nat) (hs : s ≤ 6) : n * p10 (6 - s) = n.tdiv (p10 s) * 1000000 + restOf n s := by
  have h : s = 0 ∨ s = 1 ∨ s = 2 ∨ s = 3 ∨ s = 4 ∨ s = 5 ∨ s = 6 := by omega
  rcases h with rfl | rfl | rfl | rfl | rfl | rfl | rfl
  · have t := Int.mul_tdiv_add_tmod n 1; simp [restOf, p10]
  · have t := Int.mul_tdiv_add_tmod n 10; simp [restOf, p10]; omega
  · have t := Int.mul_tdiv_add_tmod n 100; simp [restOf, p10]; omega
  · have t := Int.mul_tdiv_add_tmod n 1000; simp [restOf, p10]; omega
  · have t := Int.mul_tdiv_add_tmod n 10000; simp [restOf, p10]; omega
  · have t := Int.mul_tdiv_add_tmod n 100000; simp [restOf, p10]; omega
  · have t := Int.mul_tdiv_add_tmod n 1000000; simp [restOf, p10]; omega
theorem num_same {n n' : Int} {s s' : Nat} (hs : s ≤ 6) (hs' : s' ≤ 6) (o : s = 0 ∨ n.tmod 10 ≠ 0) (o' : s' = 0 ∨ n'.tmod 10 ≠ 0) (h : cmpN n s n' s' = 0) : n = n' ∧ s = s' := by
  unfold cmpN at h
  obtain ⟨h1, h2⟩ := orI_zero h
  have h1 := cmpI_zero h1
  have h2 := cmpI_zero h2
  have e1 := scaled n s hs
  have e2 := scaled n' s' hs'
  rw [h1, h2] at e1
  have e : n * p10 (6 - s) = n' * p10 (6 - s') := by omega
  have c1 : s = 0 ∨ s = 1 ∨ s = 2 ∨ s = 3 ∨ s = 4 ∨ s = 5 ∨ s = 6 := by omega
  have c2 : s' = 0 ∨ s' = 1 ∨ s' = 2 ∨ s' = 3 ∨ s' = 4 ∨ s' = 5 ∨ s' = 6 := by omega
  have m1 := Int.mul_tdiv_add_tmod n 10
  have m2 := Int.mul_tdiv_add_tmod n' 10
  have b1 := tmod_bound n 10 (by omega)
  have b2 := tmod_bound n' 10 (by omega)
  clear h1 h2 e1 e2 h
  rcases c1 with rfl | rfl | rfl | rfl | rfl | rfl | rfl <;> rcases c2 with rfl | rfl | rfl | rfl | rfl | rfl | rfl <;> simp [p10] at e <;> omega
/-- Terms that may be and compare alike are the same. -/
theorem TD.same {x y : TD} (hx : ∀ i : Nat, 0 ≤ x.bs[i]?.getD 0 ∧ x.bs[i]?.getD 0 ≤ 255) (hy : ∀ i : Nat, 0 ≤ y.bs[i]?.getD 0 ∧ y.bs[i]?.getD 0 ≤ 255) (ok : x.ok = true) (h : x.cT y = 0) : x = y := by
  have oky : y.ok = true := by
    cases e : y.ok
    · unfold TD.cT cmpT at h
      rw [ok, e] at h
      simp at h
    · rfl
  have h' : x.cmp y = 0 := by
    unfold TD.cT cmpT at h
    rw [ok, oky] at h
    simpa using h
  obtain ⟨k, bs, n, s⟩ := x
  obtain ⟨k', bs', n', s'⟩ := y
  unfold TD.cmp cmp3 at h'
  obtain ⟨h1, h2⟩ := orI_zero h'
  obtain ⟨h2, h3⟩ := orI_zero h2
  have hk : k = k' := cmpI_zero h1
  have hbs : bs = bs' := bytesOf_inj hx hy (cb_zero _ _ h2)
  have h3 : cmpN n s.toNat n' s'.toNat = 0 := h3
  clear h1 h2
  subst hk hbs
  have o1 : termOk k bs n s = true := ok
  have o2 : termOk k bs n' s' = true := oky
  have s1 := termOk_scale o1
  have s2 := termOk_scale o2
  have hz : n = n' ∧ s = s' := by
    unfold termOk at o1 o2
    by_cases k0 : k = 0
    · rw [if_pos k0] at o1 o2; simp at o1 o2; omega
    by_cases k1 : k = 1
    · rw [if_neg k0, if_pos k1] at o1 o2
      simp at o1 o2
      have a1 : s = 0 := o1.2
      have a2 : s' = 0 := o2.2
      subst a1 a2
      have := num_same (s := 0) (s' := 0) (by omega) (by omega) (.inl rfl) (.inl rfl) h3
      exact ⟨this.1, rfl⟩
    by_cases k2 : k = 2
    · rw [if_neg k0, if_neg k1, if_pos k2] at o1 o2; simp at o1 o2; omega
    by_cases k3 : k = 3
    · rw [if_neg k0, if_neg k1, if_neg k2, if_pos k3] at o1 o2
      simp only [Bool.and_eq_true, numOk, Bool.or_eq_true, decide_eq_true_eq, beq_iff_eq, bne_iff_ne] at o1 o2
      have := num_same (s := s.toNat) (s' := s'.toNat) (by omega) (by omega) (o1.2.2.elim (fun h => .inl (by omega)) (fun h => .inr h)) (o2.2.2.elim (fun h => .inl (by omega)) (fun h => .inr h)) h3
      exact ⟨this.1, by omega⟩
    · rw [if_neg k0, if_neg k1, if_neg k2, if_neg k3] at o1; cases o1
  obtain ⟨rfl, rfl⟩ := hz
  rfl
end Go.Proofs.Ytjhobhkdncdnaaa
