/- Texts put together: OrdA TxtC StrA -/
import Derived.Test.YtobnpfcgcoooeaaGreatDoorMk04
import Derived.Test.YtobnpfcgcoooeaaGreatDoorMk02
import Derived.Lib.ConvBytes
import Derived.Laws.BytesArg
/- OrdA -/
namespace Go.Proofs.YtobnpfcgcoooeaaGreatDoor
open Go.RowKit Go.Deep

/-- A comparison that answers -1, 0, 1, that turns its sign when its two sides change places, and that goes on from one to the next. -/
structure Ord3 {α : Type} (c : α → α → Int) : Prop where
  rng : ∀ x y, c x y = -1 ∨ c x y = 0 ∨ c x y = 1
  anti : ∀ x y, c x y = - c y x
  trans : ∀ x y z, c x y ≤ 0 → c y z ≤ 0 → c x z ≤ 0
theorem Ord3.self {α : Type} {c : α → α → Int} (h : Ord3 c) (x : α) : c x x = 0 := by have := h.anti x x; omega
theorem Ord3.lex {α : Type} {c d : α → α → Int} (h : Ord3 c) (k : Ord3 d) : Ord3 (fun x y => orI (c x y) (d x y)) := by
  refine ⟨fun x y => ?_, fun x y => ?_, fun x y z h1 h2 => ?_⟩
  · unfold orI
    split
    · exact k.rng x y
    · exact h.rng x y
  · have e := h.anti x y
    have f := k.anti x y
    unfold orI
    by_cases c0 : c x y = 0
    · rw [if_pos c0, if_pos (by omega)]; exact f
    · rw [if_neg c0, if_neg (by omega)]; exact e
  · have p1 : c x y ≤ 0 := by
      unfold orI at h1
      split at h1 <;> omega
    have p2 : c y z ≤ 0 := by
      unfold orI at h2
      split at h2 <;> omega
    have p3 := h.trans x y z p1 p2
    show orI (c x z) (d x z) ≤ 0
    unfold orI
    by_cases c0 : c x z = 0
    · rw [if_pos c0]
      have a1 := h.anti x z
      have a2 := h.anti x y
      have a3 := h.anti y z
      have q1 := h.trans y z x p2 (by omega)
      have q2 := h.trans z x y (by omega) p1
      have e1 : c x y = 0 := by omega
      have e2 : c y z = 0 := by omega
      have h1' : d x y ≤ 0 := by
        have : orI (c x y) (d x y) ≤ 0 := h1
        unfold orI at this
        rwa [if_pos e1] at this
      have h2' : d y z ≤ 0 := by
        have : orI (c y z) (d y z) ≤ 0 := h2
        unfold orI at this
        rwa [if_pos e2] at this
      exact k.trans x y z h1' h2'
    · rw [if_neg c0]; exact p3
theorem Ord3.key {α : Type} (f : α → Int) : Ord3 (fun x y => cmpI (f x) (f y)) := by
  refine ⟨fun x y => ?_, fun x y => ?_, fun x y z h1 h2 => ?_⟩
  · unfold cmpI
    split
    · simp
    · split <;> simp
  · unfold cmpI
    by_cases c1 : f x < f y
    · rw [if_pos c1, if_neg (by omega), if_pos c1]
    · by_cases c2 : f y < f x
      · rw [if_neg c1, if_pos c2, if_pos c2]; rfl
      · rw [if_neg c1, if_neg c2, if_neg c2, if_neg c1]; rfl
  · have g : ∀ a b : Int, cmpI a b ≤ 0 ↔ a ≤ b := by
      intro a b
      unfold cmpI
      by_cases c1 : a < b
      · rw [if_pos c1]; omega
      · by_cases c2 : b < a
        · rw [if_neg c1, if_pos c2]; omega
        · rw [if_neg c1, if_neg c2]; omega
    have h1 := (g _ _).1 h1
    have h2 := (g _ _).1 h2
    exact (g _ _).2 (by omega)

theorem cb_rng : ∀ xs ys : List UInt8, Lib.compareBytes xs ys = -1 ∨ Lib.compareBytes xs ys = 0 ∨ Lib.compareBytes xs ys = 1
  | [], [] => by simp [Lib.compareBytes]
  | [], _ :: _ => by simp [Lib.compareBytes]
  | _ :: _, [] => by simp [Lib.compareBytes]
  | a :: ar, b :: br => by
    unfold Lib.compareBytes
    split
    · simp
    · split
      · simp
      · exact cb_rng ar br
theorem u8_lt (a b : UInt8) : a < b ↔ a.toNat < b.toNat := UInt8.lt_iff_toNat_lt
theorem u8_eq {a b : UInt8} (h1 : ¬ a < b) (h2 : ¬ b < a) : a = b := by
  rw [u8_lt] at h1 h2
  exact UInt8.toNat_inj.1 (by omega)
theorem cb_anti : ∀ xs ys : List UInt8, Lib.compareBytes xs ys = - Lib.compareBytes ys xs
  | [], [] => by simp [Lib.compareBytes]
  | [], _ :: _ => by simp [Lib.compareBytes]
  | _ :: _, [] => by simp [Lib.compareBytes]
  | a :: ar, b :: br => by
    unfold Lib.compareBytes
    by_cases h1 : a < b
    · have h2 : ¬ b < a := by rw [u8_lt] at *; omega
      rw [if_pos h1, if_neg h2, if_pos h1]
    · by_cases h2 : b < a
      · rw [if_neg h1, if_pos h2, if_pos h2]; rfl
      · rw [if_neg h1, if_neg h2, if_neg h2, if_neg h1]
        exact cb_anti ar br
theorem cb_trans : ∀ xs ys zs : List UInt8, Lib.compareBytes xs ys ≤ 0 → Lib.compareBytes ys zs ≤ 0 → Lib.compareBytes xs zs ≤ 0
  | [], _, [] => by simp [Lib.compareBytes]
  | [], _, _ :: _ => by simp [Lib.compareBytes]
  | _ :: _, [], _ => by simp [Lib.compareBytes]
  | _ :: _, _ :: _, [] => by simp [Lib.compareBytes]
  | a :: ar, b :: br, c :: cr => by
    unfold Lib.compareBytes
    intro h1 h2
    by_cases a1 : a < b
    · by_cases b1 : b < c
      · have : a < c := by rw [u8_lt] at *; omega
        rw [if_pos this]; omega
      · by_cases b2 : c < b
        · rw [if_neg b1, if_pos b2] at h2; omega
        · have := u8_eq b1 b2
          subst this
          rw [if_pos a1]; omega
    · by_cases a2 : b < a
      · rw [if_neg a1, if_pos a2] at h1; omega
      · have := u8_eq a1 a2
        subst this
        rw [if_neg a1, if_neg a1] at h1
        by_cases b1 : a < c
        · rw [if_pos b1]; omega
        · by_cases b2 : c < a
          · rw [if_neg b1, if_pos b2] at h2; omega
          · rw [if_neg b1, if_neg b2] at h2 ⊢
            exact cb_trans ar br cr h1 h2
theorem cb_zero : ∀ xs ys : List UInt8, Lib.compareBytes xs ys = 0 → xs = ys
  | [], [] => fun _ => rfl
  | [], _ :: _ => by simp [Lib.compareBytes]
  | _ :: _, [] => by simp [Lib.compareBytes]
  | a :: ar, b :: br => by
    unfold Lib.compareBytes
    intro h
    by_cases h1 : a < b
    · rw [if_pos h1] at h; omega
    · by_cases h2 : b < a
      · rw [if_neg h1, if_pos h2] at h; omega
      · rw [if_neg h1, if_neg h2] at h
        rw [u8_eq h1 h2, cb_zero ar br h]
theorem bytesOf_inj {xs ys : List Int} (hx : ∀ i : Nat, 0 ≤ xs[i]?.getD 0 ∧ xs[i]?.getD 0 ≤ 255) (hy : ∀ i : Nat, 0 ≤ ys[i]?.getD 0 ∧ ys[i]?.getD 0 ≤ 255) (h : Lib.bytesOf xs = Lib.bytesOf ys) : xs = ys := by
  have hl : xs.length = ys.length := by
    have := congrArg List.length h
    simpa [Lib.bytesOf] using this
  refine List.ext_getElem? fun i => ?_
  by_cases hi : i < xs.length
  · have h1 := congrArg (fun l => l[i]?) h
    simp only [Lib.bytesOf, List.getElem?_map, List.getElem?_eq_getElem hi, List.getElem?_eq_getElem (show i < ys.length by omega), Option.map_some, Option.some.injEq] at h1
    have hx' := hx i
    have hy' := hy i
    rw [List.getElem?_eq_getElem hi] at hx' ⊢
    rw [List.getElem?_eq_getElem (show i < ys.length by omega)] at hy' ⊢
    simp only [Option.getD_some] at hx' hy'
    have h2 := congrArg UInt8.toNat h1
    simp only [UInt8.toNat_ofNat'] at h2
    congr 1
    omega
  · rw [List.getElem?_eq_none (by omega), List.getElem?_eq_none (by omega)]

/-- A term's parts. -/
structure TD where
  k : Int
  bs : List Int
  n : Int
  s : Int
def TD.ok (x : TD) : Bool := termOk x.k x.bs x.n x.s
def TD.cmp (x y : TD) : Int := cmp3 (cmpI x.k y.k) (cmpB x.bs y.bs) (cmpN x.n x.s.toNat y.n y.s.toNat)
def TD.cT (x y : TD) : Int := cmpT x.ok y.ok (x.cmp y)
theorem ord_cmpB : Ord3 (fun x y : TD => cmpB x.bs y.bs) := ⟨fun _ _ => cb_rng _ _, fun _ _ => cb_anti _ _, fun _ _ _ => cb_trans _ _ _⟩
theorem ord_cmp : Ord3 TD.cmp := Ord3.lex (Ord3.key TD.k) (Ord3.lex ord_cmpB (Ord3.lex (Ord3.key fun x : TD => x.n.tdiv (p10 x.s.toNat)) (Ord3.key fun x : TD => restOf x.n x.s.toNat)))
theorem ord_cT : Ord3 TD.cT := by
  refine ⟨fun x y => ?_, fun x y => ?_, fun x y z => ?_⟩
  · have := ord_cmp.rng x y
    unfold TD.cT cmpT
    cases x.ok <;> cases y.ok <;> simp_all
  · have := ord_cmp.anti x y
    unfold TD.cT cmpT
    cases x.ok <;> cases y.ok <;> simp_all
  · have := ord_cmp.trans x y z
    unfold TD.cT cmpT
    cases x.ok <;> cases y.ok <;> cases z.ok <;> simp_all

theorem cmpI_zero {a b : Int} (h : cmpI a b = 0) : a = b := by
  unfold cmpI at h
  split at h
  · omega
  · split at h <;> omega
theorem orI_zero {a b : Int} (h : orI a b = 0) : a = 0 ∧ b = 0 := by
  unfold orI at h
  split at h
  · exact ⟨by assumption, h⟩
  · omega
theorem scaled (n : Int) (s : Nat) (hs : s ≤ 6) : n * p10 (6 - s) = n.tdiv (p10 s) * 1000000 + restOf n s := by
  have h : s = 0 ∨ s = 1 ∨ s = 2 ∨ s = 3 ∨ s = 4 ∨ s = 5 ∨ s = 6 := by omega
  rcases h with rfl | rfl | rfl | rfl | rfl | rfl | rfl
  · have t := Int.mul_tdiv_add_tmod n 1; simp [restOf, p10]
  · have t := Int.mul_tdiv_add_tmod n 10; simp [restOf, p10]; omega
  · have t := Int.mul_tdiv_add_tmod n 100; simp [restOf, p10]; omega
  · have t := Int.mul_tdiv_add_tmod n 1000; simp [restOf, p10]; omega
  · have t := Int.mul_tdiv_add_tmod n 10000; simp [restOf, p10]; omega
  · have t := Int.mul_tdiv_add_tmod n 100000; simp [restOf, p10]; omega
  · have t := Int.mul_tdiv_add_tmod n 1000000; simp [restOf, p10]; omega
theorem num_same {n n' : Int} {s s' : Nat} (hs : s ≤ 6) (hs' : s' ≤ 6) (o : s = 0 ∨ n.tmod 10 ≠ 0) (o' : s' = 0 ∨ n'.tmod 10 ≠ 0) (h : cmpN n s n' s' = 0) : n = n' ∧ s = s' := by
  unfold cmpN at h
  obtain ⟨h1, h2⟩ := orI_zero h
  have h1 := cmpI_zero h1
  have h2 := cmpI_zero h2
  have e1 := scaled n s hs
  have e2 := scaled n' s' hs'
  rw [h1, h2] at e1
  have e : n * p10 (6 - s) = n' * p10 (6 - s') := by omega
  have c1 : s = 0 ∨ s = 1 ∨ s = 2 ∨ s = 3 ∨ s = 4 ∨ s = 5 ∨ s = 6 := by omega
  have c2 : s' = 0 ∨ s' = 1 ∨ s' = 2 ∨ s' = 3 ∨ s' = 4 ∨ s' = 5 ∨ s' = 6 := by omega
  have m1 := Int.mul_tdiv_add_tmod n 10
  have m2 := Int.mul_tdiv_add_tmod n' 10
  have b1 := tmod_bound n 10 (by omega)
  have b2 := tmod_bound n' 10 (by omega)
  clear h1 h2 e1 e2 h
  rcases c1 with rfl | rfl | rfl | rfl | rfl | rfl | rfl <;> rcases c2 with rfl | rfl | rfl | rfl | rfl | rfl | rfl <;> simp [p10] at e <;> omega
/-- Terms that may be and compare alike are the same. -/
theorem TD.same {x y : TD} (hx : ∀ i : Nat, 0 ≤ x.bs[i]?.getD 0 ∧ x.bs[i]?.getD 0 ≤ 255) (hy : ∀ i : Nat, 0 ≤ y.bs[i]?.getD 0 ∧ y.bs[i]?.getD 0 ≤ 255) (ok : x.ok = true) (h : x.cT y = 0) : x = y := by
  have oky : y.ok = true := by
    cases e : y.ok
    · unfold TD.cT cmpT at h
      rw [ok, e] at h
      simp at h
    · rfl
  have h' : x.cmp y = 0 := by
    unfold TD.cT cmpT at h
    rw [ok, oky] at h
    simpa using h
  obtain ⟨k, bs, n, s⟩ := x
  obtain ⟨k', bs', n', s'⟩ := y
  unfold TD.cmp cmp3 at h'
  obtain ⟨h1, h2⟩ := orI_zero h'
  obtain ⟨h2, h3⟩ := orI_zero h2
  have hk : k = k' := cmpI_zero h1
  have hbs : bs = bs' := bytesOf_inj hx hy (cb_zero _ _ h2)
  have h3 : cmpN n s.toNat n' s'.toNat = 0 := h3
  clear h1 h2
  subst hk hbs
  have o1 : termOk k bs n s = true := ok
  have o2 : termOk k bs n' s' = true := oky
  have s1 := termOk_scale o1
  have s2 := termOk_scale o2
  have hz : n = n' ∧ s = s' := by
    unfold termOk at o1 o2
    by_cases k0 : k = 0
    · rw [if_pos k0] at o1 o2; simp at o1 o2; omega
    by_cases k1 : k = 1
    · rw [if_neg k0, if_pos k1] at o1 o2
      simp at o1 o2
      have a1 : s = 0 := o1.2
      have a2 : s' = 0 := o2.2
      subst a1 a2
      have := num_same (s := 0) (s' := 0) (by omega) (by omega) (.inl rfl) (.inl rfl) h3
      exact ⟨this.1, rfl⟩
    by_cases k2 : k = 2
    · rw [if_neg k0, if_neg k1, if_pos k2] at o1 o2; simp at o1 o2; omega
    by_cases k3 : k = 3
    · rw [if_neg k0, if_neg k1, if_neg k2, if_pos k3] at o1 o2
      simp only [Bool.and_eq_true, numOk, Bool.or_eq_true, decide_eq_true_eq, beq_iff_eq, bne_iff_ne] at o1 o2
      have := num_same (s := s.toNat) (s' := s'.toNat) (by omega) (by omega) (o1.2.2.elim (fun h => .inl (by omega)) (fun h => .inr h)) (o2.2.2.elim (fun h => .inl (by omega)) (fun h => .inr h)) h3
      exact ⟨this.1, by omega⟩
    · rw [if_neg k0, if_neg k1, if_neg k2, if_neg k3] at o1; cases o1
  obtain ⟨rfl, rfl⟩ := hz
  rfl
end Go.Proofs.YtobnpfcgcoooeaaGreatDoor

/- TxtC -/
namespace Go.Proofs.YtobnpfcgcoooeaaGreatDoor
open Go.RowKit Go.Deep

/-- A text that is none, or lies in a block of its own from B on; what is behind it may be written. -/
def Tx (w : World) (B : Nat) (a : Option Addr) (len cap : Nat) (bs : List Int) : Prop :=
  Bs w a len bs ∧ ((a = none ∧ len = 0 ∧ cap = 0) ∨ ∃ g, a = some ⟨g, 0, none⟩ ∧ B ≤ g ∧ g < w.heap.size ∧ len ≤ cap ∧ ∀ j, j < cap → (∃ v, w.cell? ⟨g, j, none⟩ = some (.int .u8 v)) ∧ w.frozen? ⟨g, j, none⟩ = false)
theorem Tx.below {w w' : World} {B : Nat} {a : Option Addr} {len cap : Nat} {bs : List Int} (h : Tx w B a len cap bs) (hb : Below w.heap.size w w') : Tx w' B a len cap bs := by
  refine ⟨h.1.below hb, ?_⟩
  rcases h.2 with h2 | ⟨g, ha, hB, hg, hl, hc⟩
  · exact .inl h2
  · refine .inr ⟨g, ha, hB, Nat.lt_of_lt_of_le hg hb.size, hl, fun j hj => ?_⟩
    rw [hb.cell (p := ⟨g, j, none⟩) hg, hb.frozen (p := ⟨g, j, none⟩) hg]
    exact hc j hj
theorem Tx.mono {w : World} {B B' : Nat} {a : Option Addr} {len cap : Nat} {bs : List Int} (h : Tx w B a len cap bs) (hB : B' ≤ B) : Tx w B' a len cap bs := by
  refine ⟨h.1, ?_⟩
  rcases h.2 with h2 | ⟨g, ha, hg, hr⟩
  · exact .inl h2
  · exact .inr ⟨g, ha, Nat.le_trans hB hg, hr⟩
theorem Tx.nil (w : World) (B : Nat) : Tx w B none 0 0 [] := ⟨⟨rfl, by omega, by simp, .inl rfl⟩, .inl ⟨rfl, rfl, rfl⟩⟩

def numsOf (s : ByteArray) : List Int := s.data.toList.map (fun b => (b.toNat : Int))
theorem Tx.conv (w : World) (s : ByteArray) (e : TypeId) (hs : s.size ≤ 1048576) : Tx (Lib.bytesWorld w e s) w.heap.size (some ⟨w.heap.size, 0, none⟩) s.size (grownCap w s.size 0 e) (numsOf s) := by
  have hge := grownCap_ge w s.size 0 e
  refine ⟨⟨by simp [numsOf], hs, fun i => ?_, .inr ⟨w.heap.size, 0, rfl, by rw [Lib.bytesWorld_size]; omega, fun i hi => ?_⟩⟩, .inr ⟨w.heap.size, rfl, Nat.le_refl _, by rw [Lib.bytesWorld_size]; omega, hge, fun j hj => ?_⟩⟩
  · by_cases h : i < s.data.toList.length
    · have hb := (s.data.toList[i]).toNat_lt
      simp only [numsOf, List.getElem?_map, List.getElem?_eq_getElem h, Option.map_some, Option.getD_some]
      omega
    · simp only [numsOf, List.getElem?_map, List.getElem?_eq_none (Nat.le_of_not_lt h), Option.map_none, Option.getD_none]
      omega
  · rw [Nat.zero_add, Lib.bytesWorld_cell w e s i hi]
    have h : i < s.data.toList.length := by simpa using hi
    simp only [numsOf, List.getElem?_map, List.getElem?_eq_getElem h, Option.map_some, Option.getD_some, List.getD_eq_getElem?_getD]
  · have hsz : (Lib.bytesCells w e s).size = grownCap w s.size 0 e := by
      simp [Lib.bytesCells]
      omega
    refine ⟨?_, ?_⟩
    · have hj' : j < (Lib.bytesCells w e s).size := by omega
      simp only [World.cell?, Lib.bytesWorld_at_new]
      by_cases hjs : j < s.size
      · exact ⟨(s.data[j]'hjs).toNat, by simp [Lib.bytesCells, Array.getElem?_append, hjs]⟩
      · refine ⟨0, ?_⟩
        have h1 : ¬ j < (s.data.map fun b => Value.int .u8 b.toNat).size := by simpa using hjs
        have h2 : j - (s.data.map fun b => Value.int .u8 b.toNat).size < grownCap w s.size 0 e - s.size := by simp; omega
        rw [Lib.bytesCells, Array.getElem?_append, if_neg h1, Array.getElem?_replicate, if_pos h2]
        rfl
    · simp only [World.frozen?, Lib.bytesWorld_at_new, hsz]
      simp
      omega
theorem bytesWorld_below (w : World) (e : TypeId) (s : ByteArray) : Below w.heap.size w (Lib.bytesWorld w e s) := by
  refine ⟨?_, ?_, ?_, by rw [Lib.bytesWorld_size]; omega, fun b hb => Lib.bytesWorld_at_old w e s b hb⟩ <;> rfl

/-- A list of bytes. -/
def Byt (l : List Int) : Prop := ∀ x ∈ l, 0 ≤ x ∧ x ≤ 255
theorem Byt.get {l : List Int} (h : Byt l) (i : Nat) : 0 ≤ l[i]?.getD 0 ∧ l[i]?.getD 0 ≤ 255 := by
  by_cases hi : i < l.length
  · rw [List.getElem?_eq_getElem hi]
    exact h _ (List.getElem_mem hi)
  · rw [List.getElem?_eq_none (by omega)]
    simp
theorem Byt.of {l : List Int} (h : ∀ i : Nat, 0 ≤ l[i]?.getD 0 ∧ l[i]?.getD 0 ≤ 255) : Byt l := by
  intro x hx
  obtain ⟨i, hi, rfl⟩ := List.getElem_of_mem hx
  have := h i
  rwa [List.getElem?_eq_getElem hi] at this
theorem Byt.app {l m : List Int} (h : Byt l) (k : Byt m) : Byt (l ++ m) := by
  intro x hx
  rcases List.mem_append.1 hx with hx | hx
  · exact h x hx
  · exact k x hx
theorem Byt.cons {a : Int} {l : List Int} (ha : 0 ≤ a ∧ a ≤ 255) (h : Byt l) : Byt (a :: l) := by
  intro x hx
  rcases List.mem_cons.1 hx with rfl | hx
  · exact ha
  · exact h x hx
theorem Byt.nil : Byt [] := fun x hx => by cases hx
theorem Bs.byt {w : World} {a : Option Addr} {len : Nat} {bs : List Int} (h : Bs w a len bs) : Byt bs := Byt.of h.2.2.1

theorem numsOf_append (s t : ByteArray) : numsOf (s ++ t) = numsOf s ++ numsOf t := by simp [numsOf]
theorem numsOf_len (s : ByteArray) : (numsOf s).length = s.size := by simp [numsOf]
theorem numsOf_nums {bs : List Int} (h : Byt bs) : numsOf (strOfNums bs) = bs := by
  unfold numsOf
  rw [strOfNums_data, List.map_map]
  have : ∀ x ∈ bs, ((fun b : UInt8 => (b.toNat : Int)) ∘ fun n : Int => UInt8.ofNat n.toNat) x = x := by
    intro x hx
    obtain ⟨h0, h1⟩ := h x hx
    simp
    omega
  rw [List.map_congr_left this, List.map_id']
theorem Bs.str {w : World} {a : Option Addr} {len cap : Nat} {bs : List Int} (h : Bs w a len bs) : (convert 22 9 (.slice a len cap)).run Tryz.prog w = .ok (.string (strOfNums bs)) w := by
  obtain ⟨hl, _, _, h4⟩ := h
  rcases h4 with h4 | ⟨b, off, rfl, _, hc⟩
  · subst h4
    have e : bs = [] := List.eq_nil_of_length_eq_zero hl
    subst e
    cases a with
    | none =>
      rw [run_convert_bytes_nil w 22 5 Tryz.underlying22 Tryz.underlying5 0 cap 9 Tryz.underlying9]
      rfl
    | some x =>
      have hl : (loadCells x 0).run Tryz.prog w = .ok (([] : List Int).map (Value.int .u8)).toArray w := rfl
      rw [run_convert_bytes_string w 22 9 5 _ 0 cap Tryz.underlying22 Tryz.underlying5 Tryz.underlying9, run_bytesToString w _ 0 cap [] hl]
      rfl
  · exact run_convert_bytes_arg w 22 5 Tryz.underlying22 Tryz.underlying5 b off len cap bs hl (fun i hi => by rw [hc i hi, List.getD_eq_getElem?_getD]) 9 Tryz.underlying9
end Go.Proofs.YtobnpfcgcoooeaaGreatDoor

/- StrA -/
namespace Go.Proofs.YtobnpfcgcoooeaaGreatDoor
open Go.RowKit Go.Deep

/-- A comparison whose zero is sameness, on what P tells. -/
structure OrdP {α : Type} (P : α → Prop) (c : α → α → Int) : Prop where
  o : Ord3 c
  z : ∀ x y, P x → P y → c x y = 0 → x = y

/-- Two lists that ascend strictly and hold the same are the same. -/
theorem asc_unique {α : Type} {P : α → Prop} {c : α → α → Int} (h : OrdP P c) : ∀ (xs ys : List α), (∀ x ∈ xs, P x) → (∀ y ∈ ys, P y) → xs.Pairwise (fun x y => c x y < 0) → ys.Pairwise (fun x y => c x y < 0) → (∀ x, x ∈ xs ↔ x ∈ ys) → xs = ys
  | [], [], _, _, _, _, _ => rfl
  | [], y :: ys, _, _, _, _, hm => by have := (hm y).2 (by simp); simp at this
  | x :: xs, [], _, _, _, _, hm => by have := (hm x).1 (by simp); simp at this
  | x :: xs, y :: ys, hx, hy, ax, ay, hm => by
    have ax' := List.pairwise_cons.1 ax
    have ay' := List.pairwise_cons.1 ay
    have e : x = y := by
      have h1 := (hm x).1 (by simp)
      have h2 := (hm y).2 (by simp)
      rcases List.mem_cons.1 h1 with h1 | h1
      · exact h1
      · rcases List.mem_cons.1 h2 with h2 | h2
        · exact h2.symm
        · have a := ay'.1 x h1
          have b := ax'.1 y h2
          have := h.o.anti x y
          omega
    subst e
    have hself := h.o.self x
    congr 1
    refine asc_unique h xs ys (fun z hz => hx z (by simp [hz])) (fun z hz => hy z (by simp [hz])) ax'.2 ay'.2 fun z => ⟨fun hz => ?_, fun hz => ?_⟩
    · have := (hm z).1 (by simp [hz])
      rcases List.mem_cons.1 this with rfl | this
      · have := ax'.1 z hz; omega
      · exact this
    · have := (hm z).2 (by simp [hz])
      rcases List.mem_cons.1 this with rfl | this
      · have := ay'.1 z hz; omega
      · exact this

/-- Two lists that do not descend and are permutations of one another are the same. -/
theorem sort_unique {α : Type} {P : α → Prop} {c : α → α → Int} (h : OrdP P c) (xs ys : List α) (hx : ∀ x ∈ xs, P x) (hp : xs.Perm ys) (ax : xs.Pairwise (fun x y => c x y ≤ 0)) (ay : ys.Pairwise (fun x y => c x y ≤ 0)) : xs = ys := by
  refine List.Perm.eq_of_pairwise (le := fun x y => c x y ≤ 0) ?_ ax ay hp
  intro x y hx1 hy1 h1 h2
  have := h.o.anti x y
  exact h.z x y (hx x hx1) (hx y (hp.mem_iff.2 hy1)) (by omega)

theorem Ord3.lt_le {α : Type} {c : α → α → Int} (h : Ord3 c) {x y z : α} (h1 : c x y < 0) (h2 : c y z ≤ 0) : c x z < 0 := by
  have h3 := h.trans x y z (by omega) h2
  by_cases e : c x z = 0
  · have a1 := h.anti x z
    have a2 := h.anti x y
    have := h.trans y z x h2 (by omega)
    omega
  · omega
theorem Ord3.lt_trans {α : Type} {c : α → α → Int} (h : Ord3 c) {x y z : α} (h1 : c x y < 0) (h2 : c y z < 0) : c x z < 0 := h.lt_le h1 (by omega)

/-- A term that may be, of bytes. -/
def TD.good (x : TD) : Prop := x.ok = true ∧ Byt x.bs
theorem TD.cT_good {x y : TD} (hx : x.good) (hy : y.good) : x.cT y = x.cmp y := by
  unfold TD.cT cmpT
  rw [hx.1, hy.1]
  rfl
theorem ordP_cmp : OrdP TD.good TD.cmp := ⟨ord_cmp, fun x y hx hy h => TD.same hx.2.get hy.2.get hx.1 (by rw [TD.cT_good hx hy]; exact h)⟩

/-- Just the terms of ts, ascending. -/
structure TermsOf (ts l : List TD) : Prop where
  asc : l.Pairwise (fun x y => x.cmp y < 0)
  mem : ∀ x, x ∈ l ↔ x ∈ ts
theorem TermsOf.unique {ts l l' : List TD} (hg : ∀ x ∈ ts, x.good) (h : TermsOf ts l) (h' : TermsOf ts l') : l = l' :=
  asc_unique ordP_cmp l l' (fun x hx => hg x ((h.mem x).1 hx)) (fun x hx => hg x ((h'.mem x).1 hx)) h.asc h'.asc fun x => (h.mem x).trans (h'.mem x).symm

/-- A row's numbers in an order, the first one first. -/
def rkey (o : Nat) (r : Int × Int × Int) : Int × Int × Int :=
  if o = 0 then r else if o = 1 then (r.1, r.2.2, r.2.1) else if o = 2 then (r.2.1, r.1, r.2.2) else if o = 3 then (r.2.1, r.2.2, r.1) else if o = 4 then (r.2.2, r.1, r.2.1) else (r.2.2, r.2.1, r.1)
def rcmp (o : Nat) (x y : Int × Int × Int) : Int := orI (cmpI (rkey o x).1 (rkey o y).1) (orI (cmpI (rkey o x).2.1 (rkey o y).2.1) (cmpI (rkey o x).2.2 (rkey o y).2.2))
theorem ord_rcmp (o : Nat) : Ord3 (rcmp o) := Ord3.lex (Ord3.key fun x => (rkey o x).1) (Ord3.lex (Ord3.key fun x => (rkey o x).2.1) (Ord3.key fun x => (rkey o x).2.2))
theorem rkey_inj {o : Nat} {x y : Int × Int × Int} (h : rkey o x = rkey o y) : x = y := by
  obtain ⟨a, b, c⟩ := x
  obtain ⟨a', b', c'⟩ := y
  unfold rkey at h
  split at h
  · exact h
  split at h
  · simp at h; simp [h]
  split at h
  · simp at h; simp [h]
  split at h
  · simp at h; simp [h]
  split at h
  · simp at h; simp [h]
  · simp at h; simp [h]
theorem ordP_rcmp (o : Nat) : OrdP (fun _ => True) (rcmp o) := by
  refine ⟨ord_rcmp o, fun x y _ _ h => rkey_inj (o := o) ?_⟩
  unfold rcmp at h
  obtain ⟨h1, h2⟩ := orI_zero h
  obtain ⟨h2, h3⟩ := orI_zero h2
  exact Prod.ext (cmpI_zero h1) (Prod.ext (cmpI_zero h2) (cmpI_zero h3))

/-- The rows rs in an order. -/
structure RowsOf (o : Nat) (rs l : List (Int × Int × Int)) : Prop where
  perm : l.Perm rs
  asc : l.Pairwise (fun x y => rcmp o x y ≤ 0)
theorem RowsOf.unique {o : Nat} {rs l l' : List (Int × Int × Int)} (h : RowsOf o rs l) (h' : RowsOf o rs l') : l = l' :=
  sort_unique (ordP_rcmp o) l l' (fun _ _ => trivial) (h.perm.trans h'.perm.symm) h.asc h'.asc
/-- A term's number among those that ascend; 0: it has none. -/
def idOf (l : List TD) (t : TD) : Nat := (l.findIdx? (fun x => decide (x.cmp t = 0))).elim 0 (· + 1)
end Go.Proofs.YtobnpfcgcoooeaaGreatDoor
