/- Texts put together: ShwJ StpF StpG -/
import Derived.Test.YtobnpfcgcoooeaaGreatDoorMk33
import Derived.Maps.Own
import Derived.Maps.OwnOps
import Derived.Maps.Views
/- ShwJ -/
namespace Go.Proofs.YtobnpfcgcoooeaaGreatDoor
open Go.RowKit Go.Deep
set_option maxRecDepth 100000

theorem conv_res {w w1 : World} (S : ByteArray) (N : Nat) {bs : List Int} (hb : Below w.heap.size w w1) (hN : S.size = N) (hn : numsOf S = bs) (hl : bs.length ≤ 1048576) :
    TxRes w bs (.returned (.slice (some ⟨w1.heap.size, 0, none⟩) N (grownCap w1 N 0 5))) (Lib.bytesWorld w1 5 S) := by
  have hs : S.size = bs.length := by rw [← hn, numsOf_len]
  have := Tx.conv w1 S 5 (by omega)
  rw [hn, hs] at this
  rw [← hN, hs]
  exact ⟨_, _, rfl, this.nw.mono hb.size, bl_trans hb (bytesWorld_below _ _ _)⟩

theorem size_name (st : ByteArray) : (({ data := #[60] } : ByteArray) ++ st ++ { data := #[62] }).size = 1 + st.size + 1 := by
  rw [ByteArray.size_append, ByteArray.size_append]
  rfl
theorem size_blank (st : ByteArray) : (({ data := #[95, 58] } : ByteArray) ++ st).size = 2 + st.size := by
  rw [ByteArray.size_append]
  rfl
theorem text_any (n s : Int) (w : World) (h : numOk n s = true) (ht : Tab w) :
    Calls Tryz.prog 61 #[.agg #[.int .i64 n, .int .i64 s]] w fun e w' => StrRes w (showL 3 n s []) e w' := by
  have hb := numOk_bounds h
  obtain ⟨t, rfl⟩ : ∃ t : Nat, s = t := ⟨s.toNat, by omega⟩
  by_cases hn : n < 0
  · obtain ⟨m, rfl⟩ : ∃ m, n = -m := ⟨-n, by omega⟩
    have := text_neg m t w (by omega) (by omega) (by omega) ht
    have e : showL 3 (-m) t [] = 45 :: numL m t := by simp [showL]; omega
    rw [e]
    exact this
  · have := text_pos n t w (by omega) (by omega) (by omega) ht
    have e : showL 3 n t [] = numL n t := by simp [showL, hn]
    rw [e]
    exact this

set_option maxHeartbeats 1000000 in
theorem implShow_any (k n s : Int) (a : Option Addr) (len cap : Nat) (bs : List Int) (w : World) (hB : Bs w a len bs) (h1 : -9223372036854775808 ≤ n) (h2 : n ≤ 9223372036854775807) (h3 : -9223372036854775808 ≤ s) (h4 : s ≤ 9223372036854775807) (ht : Tab w) :
    Calls Tryz.prog 32 #[.agg #[.int .i64 k, .slice a len cap, .int .i64 n, .int .i64 s]] w fun e w' => TxRes w (shownL k n s bs) e w' := by
  have T := fun o => implTermOk_any k n s a len cap bs (w.alloc o) (hB.below (bl_a o)) h1 h2 h3 h4
  have hcv := fun (w : World) (s : ByteArray) => Lib.run_convert_string_bytes (P := Tryz.prog) w 9 22 5 s Tryz.underlying9 Tryz.underlying22 Tryz.underlying5
  have HA := At4.new w (.int .i64 k) (.slice a len cap) (.int .i64 n) (.int .i64 s) 37
  have HT : Hid (Tab (w.alloc (.cells #[.int .i64 k, .slice a len cap, .int .i64 n, .int .i64 s] 37))) := ht.below (bl_a _)
  have HBs : Hid (Bs (w.alloc (.cells #[.int .i64 k, .slice a len cap, .int .i64 n, .int .i64 s] 37)) a len bs) := hB.below (bl_a _)
  have HY : Hid (Byt bs) := hB.byt
  have HL : Hid (bs.length = len) := hB.1
  cases hok : termOk k bs n s
  · have e : shownL k n s bs = [] := by simp [shownL, hok]
    rw [e]
    rw [hok] at T
    clear hB hcv HA HT HBs
    go_enter Tryz.func32, Tryz.ntmps32
    go_wp2_with fail
    refine (T _).mono ?_
    rintro e w1 ⟨rfl, hb1⟩
    have HB1 : Hid (Below w.heap.size w w1) := bl_trans (bl_a _) hb1
    clear hb1 T
    go_wp2_with fail
    go_ret
    exact ⟨none, 0, rfl, Nw.nil _ _, HB1.out⟩
  · have e : shownL k n s bs = showL k n s bs := by simp [shownL, hok]
    rw [e]
    have hln := showL_len hok
    have HYY : Hid (Byt (showL k n s bs)) := showL_byt HY.out
    rw [hok] at T
    have HOK := hok
    unfold termOk at hok
    clear hB ht
    split at hok
    · rename_i hk
      subst hk
      have HE : Hid (showL 0 n s bs = 60 :: (bs ++ [62])) := by show _ = _; simp [showL]
      have hz : (strOfNums bs).size ≤ 12 := by rw [strOfNums_size]; simp [nameOk] at hok; omega
      have HN : Hid (numsOf (strOfNums bs) = bs) := numsOf_nums HY.out
      generalize showL 0 n s bs = L at *
      clear hok HOK HT
      go_enter Tryz.func32, Tryz.ntmps32
      go_wp2_with fail
      refine (T _).mono ?_
      rintro e w1 ⟨rfl, hb1⟩
      obtain ⟨a0, a1, a2, a3, a4⟩ := HA.below hb1
      have hv := (HBs.out.below hb1).str (cap := cap)
      have HB1 : Hid (Below w.heap.size w w1) := bl_trans (bl_a _) hb1
      clear hb1 T HA HBs
      generalize strOfNums bs = st at *
      go_wp2_with fail
      go_ret
      refine conv_res ({ data := #[60] } ++ st ++ { data := #[62] }) (1 + st.size + 1) (bs := L) HB1.out (size_name st) ?_ (by omega)
      rw [HE.out]
      simp only [numsOf_append, HN.out]
      simp [numsOf]
    split at hok
    · rename_i k0 hk
      subst hk
      have HE : Hid (showL 1 n s bs = 95 :: 58 :: digitsL n.toNat) := by show _ = _; simp [showL]
      have hn : 0 ≤ n := by simp at hok; omega
      have I := fun w ht => itoa_any n w hn h2 ht
      have hL := digitsL_len 18 n.toNat (by omega)
      generalize showL 1 n s bs = L at *
      generalize digitsL n.toNat = d at *
      clear hok HOK
      go_enter Tryz.func32, Tryz.ntmps32
      go_wp2_with fail
      refine (T _).mono ?_
      rintro e w1 ⟨rfl, hb1⟩
      obtain ⟨a0, a1, a2, a3, a4⟩ := HA.below hb1
      have HB1 : Hid (Below w.heap.size w w1) := bl_trans (bl_a _) hb1
      have HT1 : Hid (Tab w1) := HT.out.below hb1
      clear hb1 T HA HBs HT
      go_wp2_with fail
      refine (I _ HT1.out).mono ?_
      rintro e w2 ⟨st, rfl, hst, hb2⟩
      have HB2 : Hid (Below w.heap.size w w2) := bl_trans HB1.out hb2
      have HN : Hid (numsOf st = d) := hst
      have hz : st.size ≤ 19 := by rw [← numsOf_len, hst]; omega
      clear hb2 hst I HT1 HB1
      go_wp2_with fail
      go_ret
      refine conv_res ({ data := #[95, 58] } ++ st) (2 + st.size) (bs := L) HB2.out (size_blank st) ?_ (by omega)
      rw [HE.out]
      simp only [numsOf_append, HN.out]
      simp [numsOf]
    split at hok
    · rename_i k0 k1 hk
      subst hk
      have HE : Hid (showL 2 n s bs = 34 :: (esc bs ++ [34])) := by show _ = _; simp [showL]
      have Q := fun w hB => quoted_any a len cap bs w hB
      generalize showL 2 n s bs = L at *
      generalize (34 :: (esc bs ++ [34])) = L2 at *
      obtain rfl : L = L2 := HE.out
      clear hok HOK HT HE
      go_enter Tryz.func32, Tryz.ntmps32
      go_wp2_with fail
      refine (T _).mono ?_
      rintro e w1 ⟨rfl, hb1⟩
      obtain ⟨a0, a1, a2, a3, a4⟩ := HA.below hb1
      have HB1 : Hid (Below w.heap.size w w1) := bl_trans (bl_a _) hb1
      have HBs1 : Hid (Bs w1 a len bs) := HBs.out.below hb1
      clear hb1 T HA HBs
      go_wp2_with fail
      refine (Q _ HBs1.out).mono ?_
      intro e w2 hR
      have HR := (hR.later HB1.out).tx HYY.out (by omega)
      clear hR Q
      obtain ⟨x, cp, rfl, hr, hbl⟩ := HR
      have HR : Hid (Nw w2 w.heap.size x L.length L) := hr
      have HB : Hid (Below w.heap.size w w2) := hbl
      clear hr hbl
      go_wp2_with fail
      go_ret
      exact ⟨x, cp, rfl, HR.out, HB.out⟩
    split at hok
    · rename_i k0 k1 k2 hk
      subst hk
      have HE : Hid (showL 3 n s bs = showL 3 n s []) := by show _ = _; simp [showL]
      simp only [Bool.and_eq_true] at hok
      have X := fun w ht => text_any n s w hok.2 ht
      have D := fun w => decimal_any 3 n s a len cap w
      rw [HE.out] at hln HYY ⊢
      clear HE HOK hok
      generalize showL 3 n s [] = L at *
      go_enter Tryz.func32, Tryz.ntmps32
      go_wp2_with fail
      refine (T _).mono ?_
      rintro e w1 ⟨rfl, hb1⟩
      obtain ⟨a0, a1, a2, a3, a4⟩ := HA.below hb1
      have HB1 : Hid (Below w.heap.size w w1) := bl_trans (bl_a _) hb1
      have HT1 : Hid (Tab w1) := HT.out.below hb1
      clear hb1 T HA HBs HT
      go_wp2_with fail
      refine (D _).mono ?_
      rintro e w1' ⟨rfl, o1, o2, rfl⟩
      have HB1' : Hid (Below w.heap.size w ((w1.alloc o1).alloc o2)) := bl_alloc (bl_alloc HB1.out _) _
      have HT1' : Hid (Tab ((w1.alloc o1).alloc o2)) := HT1.out.below (bl_alloc (bl_a _) _)
      go_wp2_with fail
      refine (X _ HT1'.out).mono ?_
      rintro e w2 ⟨st, rfl, hst, hb2⟩
      have HB2 : Hid (Below w.heap.size w w2) := bl_trans HB1'.out hb2
      have HN : Hid (numsOf st = L) := hst
      have hz : st.size ≤ 64 := by rw [← numsOf_len, hst]; omega
      clear hb2 hst X HT1 HB1 HB1' HT1'
      go_wp2_with fail
      go_ret
      exact conv_res st st.size (bs := L) HB2.out rfl HN.out (by omega)
    · cases hok
end Go.Proofs.YtobnpfcgcoooeaaGreatDoor

/- StpF -/
namespace Go.Proofs.YtobnpfcgcoooeaaGreatDoor
open Go.RowKit Go.Deep
set_option maxRecDepth 100000

/-- What digits are worth. -/
def valL (l : List Int) : Nat := l.foldl (fun a d => a * 10 + (d - 48).toNat) 0
theorem valL_snoc (l : List Int) (d : Int) : valL (l ++ [d]) = valL l * 10 + (d - 48).toNat := by simp [valL]
theorem valL_digits (n : Nat) : valL (digitsL n) = n := by
  induction n using Nat.strongRecOn with
  | ind n ih =>
    by_cases h : n < 10
    · rw [digitsL_small h]
      simp [valL]
      omega
    · rw [digitsL_step h, valL_snoc, ih (n / 10) (by omega)]
      omega
theorem valL_zeros (m : Nat) (l : List Int) : valL (List.replicate m 48 ++ l) = valL l := by
  induction m with
  | zero => simp
  | succ m ih =>
    rw [List.replicate_succ, List.cons_append]
    simp only [valL, List.foldl_cons] at ih ⊢
    simpa using ih
theorem digitsL_mem (n : Nat) : ∀ d ∈ digitsL n, 48 ≤ d ∧ d ≤ 57 := by
  induction n using Nat.strongRecOn with
  | ind n ih =>
    intro d hd
    by_cases h : n < 10
    · rw [digitsL_small h] at hd
      simp only [List.mem_cons, List.not_mem_nil, or_false] at hd
      omega
    · rw [digitsL_step h, List.mem_append] at hd
      rcases hd with hd | hd
      · exact ih (n / 10) (by omega) d hd
      · simp only [List.mem_cons, List.not_mem_nil, or_false] at hd
        omega
theorem split_at {a a' f f' : List Int} {p : Int} (ha : p ∉ a) (ha' : p ∉ a') (h : a ++ p :: f = a' ++ p :: f') : a = a' ∧ f = f' := by
  induction a generalizing a' with
  | nil =>
    cases a' with
    | nil => simpa using h
    | cons x a' =>
      simp only [List.nil_append, List.cons_append, List.cons.injEq] at h
      exact absurd (by rw [h.1]; exact List.mem_cons_self ..) ha'
  | cons y a ih =>
    cases a' with
    | nil =>
      simp only [List.nil_append, List.cons_append, List.cons.injEq] at h
      exact absurd (by rw [← h.1]; exact List.mem_cons_self ..) ha
    | cons x a' =>
      simp only [List.cons_append, List.cons.injEq] at h
      have := ih (fun hm => ha (List.mem_cons_of_mem _ hm)) (fun hm => ha' (List.mem_cons_of_mem _ hm)) h.2
      exact ⟨by rw [h.1, this.1], this.2⟩
theorem dig_no (n : Nat) : (46 : Int) ∉ digitsL n := fun h => by have := digitsL_mem n 46 h; omega

theorem p10_pow (s : Nat) : p10 s = ((10 ^ s : Nat) : Int) := by
  induction s with
  | zero => rfl
  | succ s ih =>
    show p10 s * 10 = _
    rw [ih, Nat.pow_succ]
    push_cast
    rfl
theorem frac_len (n : Int) (s : Nat) (hs : 1 ≤ s) : (List.replicate (s - (digitsL (n % p10 s).toNat).length) (48 : Int) ++ digitsL (n % p10 s).toNat).length = s := by
  have hp : 0 < p10 s := by
    rw [p10_pow]
    exact_mod_cast Nat.pow_pos (by omega)
  have h1 := Int.emod_nonneg n (by omega : p10 s ≠ 0)
  have h2 := Int.emod_lt_of_pos n hp
  have hlt : (n % p10 s).toNat < 10 ^ (s - 1 + 1) := by
    rw [show s - 1 + 1 = s by omega]
    rw [p10_pow] at h1 h2 ⊢
    omega
  have := digitsL_len (s - 1) _ hlt
  rw [List.length_append, List.length_replicate]
  omega
theorem numL_inj {n n' : Int} {s s' : Nat} (h0 : 0 ≤ n) (h0' : 0 ≤ n') (h : numL n s = numL n' s') : n = n' ∧ s = s' := by
  unfold numL at h
  by_cases hs : s = 0
  · by_cases hs' : s' = 0
    · subst hs hs'
      simp only [if_true, List.append_nil] at h
      have := congrArg valL h
      rw [valL_digits, valL_digits] at this
      have e : p10 0 = 1 := rfl
      rw [e, Int.ediv_one, Int.ediv_one] at this
      exact ⟨by omega, rfl⟩
    · rw [if_pos hs, if_neg hs', List.append_nil] at h
      exact absurd (by rw [h]; simp) (dig_no (n / p10 s).toNat)
  · by_cases hs' : s' = 0
    · rw [if_neg hs, if_pos hs', List.append_nil] at h
      exact absurd (by rw [← h]; simp) (dig_no (n' / p10 s').toNat)
    · rw [if_neg hs, if_neg hs'] at h
      obtain ⟨e1, e2⟩ := split_at (dig_no _) (dig_no _) h
      have l1 := congrArg List.length e2
      rw [frac_len n s (by omega), frac_len n' s' (by omega)] at l1
      subst l1
      have v1 := congrArg valL e1
      have v2 := congrArg valL e2
      rw [valL_digits, valL_digits] at v1
      rw [valL_zeros, valL_zeros, valL_digits, valL_digits] at v2
      have hp : 0 < p10 s := by
        rw [p10_pow]
        exact_mod_cast Nat.pow_pos (by omega)
      have a1 := Int.emod_nonneg n (by omega : p10 s ≠ 0)
      have a2 := Int.emod_nonneg n' (by omega : p10 s ≠ 0)
      have b1 := Int.ediv_nonneg h0 (Int.le_of_lt hp)
      have b2 := Int.ediv_nonneg h0' (Int.le_of_lt hp)
      have c1 := Int.mul_ediv_add_emod n (p10 s)
      have c2 := Int.mul_ediv_add_emod n' (p10 s)
      have d1 : n / p10 s = n' / p10 s := by omega
      have d2 : n % p10 s = n' % p10 s := by omega
      rw [d1, d2] at c1
      exact ⟨by omega, rfl⟩
/-- Back from what is escaped. -/
def unesc : Bool → List Int → List Int
  | _, [] => []
  | true, a :: l => a :: unesc false l
  | false, a :: l => if a = 92 then unesc true l else a :: unesc false l
theorem unesc_esc (bs : List Int) : unesc false (esc bs) = bs := by
  induction bs with
  | nil => rfl
  | cons b bs ih =>
    have e : esc (b :: bs) = (if b = 34 ∨ b = 92 then [92, b] else [b]) ++ esc bs := rfl
    rw [e]
    split
    · simp only [List.cons_append, List.nil_append]
      rw [unesc, if_pos rfl, unesc, ih]
    · rename_i h
      simp only [List.cons_append, List.nil_append]
      rw [unesc, if_neg (by omega), ih]
theorem num_head (n : Int) (s : Nat) : ∃ d r, numL n s = d :: r ∧ 48 ≤ d ∧ d ≤ 57 := by
  unfold numL
  have h1 := digitsL_mem (n / p10 s).toNat
  cases hd : digitsL (n / p10 s).toNat with
  | nil =>
    have := digitsL_pos (n / p10 s).toNat
    rw [hd] at this
    simp at this
  | cons d r =>
    rw [hd] at h1
    exact ⟨d, _, rfl, h1 d (List.mem_cons_self ..)⟩
theorem termOk_cases {k n s : Int} {bs : List Int} (h : termOk k bs n s = true) : (k = 0 ∧ n = 0 ∧ s = 0) ∨ (k = 1 ∧ bs = [] ∧ 0 ≤ n ∧ s = 0) ∨ (k = 2 ∧ n = 0 ∧ s = 0) ∨ (k = 3 ∧ bs = [] ∧ 0 ≤ s) := by
  unfold termOk at h
  split at h
  · rename_i hk
    simp only [Bool.and_eq_true, beq_iff_eq] at h
    exact .inl ⟨hk, h.1.2, h.2⟩
  split at h
  · rename_i hk
    simp only [Bool.and_eq_true, beq_iff_eq, decide_eq_true_eq] at h
    exact .inr (.inl ⟨hk, List.eq_nil_of_length_eq_zero h.1.1.1, h.1.1.2, h.2⟩)
  split at h
  · rename_i hk
    simp only [Bool.and_eq_true, beq_iff_eq] at h
    exact .inr (.inr (.inl ⟨hk, h.1.2, h.2⟩))
  split at h
  · rename_i hk
    simp only [Bool.and_eq_true, beq_iff_eq, numOk, decide_eq_true_eq] at h
    exact .inr (.inr (.inr ⟨hk, List.eq_nil_of_length_eq_zero h.1, h.2.1.1.1.1⟩))
  · cases h
theorem show3_head (n s : Int) (bs : List Int) : ∃ d r, showL 3 n s bs = d :: r ∧ (d = 45 ∨ 48 ≤ d ∧ d ≤ 57) := by
  by_cases hn : n < 0
  · exact ⟨45, numL (-n) s.toNat, by simp [showL, hn], .inl rfl⟩
  · obtain ⟨d, r, e, h⟩ := num_head n s.toNat
    exact ⟨d, r, by simp [showL, hn, e], .inr h⟩
theorem show3_inj {n n' s s' : Int} {bs bs' : List Int} (hs : 0 ≤ s) (hs' : 0 ≤ s') (h : showL 3 n s bs = showL 3 n' s' bs') : n = n' ∧ s = s' := by
  by_cases hn : n < 0
  · by_cases hn' : n' < 0
    · simp [showL, hn, hn'] at h
      have := numL_inj (by omega) (by omega) h
      omega
    · obtain ⟨d, r, e, hd⟩ := num_head n' s'.toNat
      simp [showL, hn, hn', e] at h
      omega
  · by_cases hn' : n' < 0
    · obtain ⟨d, r, e, hd⟩ := num_head n s.toNat
      simp [showL, hn, hn', e] at h
      omega
    · simp [showL, hn, hn'] at h
      have := numL_inj (by omega) (by omega) h
      omega
/-- What is shown of a term that may be. -/
def TD.shown (x : TD) : List Int := shownL x.k x.n x.s x.bs
theorem TD.shown_good {x : TD} (hx : x.good) : x.shown = showL x.k x.n x.s x.bs := by
  unfold TD.shown shownL
  rw [if_pos (show termOk x.k x.bs x.n x.s = true from hx.1)]
theorem TD.shown_inj {x y : TD} (hx : x.good) (hy : y.good) (h : x.shown = y.shown) : x = y := by
  rw [TD.shown_good hx, TD.shown_good hy] at h
  obtain ⟨k, bs, n, s⟩ := x
  obtain ⟨k', bs', n', s'⟩ := y
  have c := termOk_cases (show termOk k bs n s = true from hx.1)
  have c' := termOk_cases (show termOk k' bs' n' s' = true from hy.1)
  simp only at h
  clear hx hy
  rcases c with ⟨rfl, rfl, rfl⟩ | ⟨rfl, rfl, hn, rfl⟩ | ⟨rfl, rfl, rfl⟩ | ⟨rfl, rfl, hs⟩
  · rcases c' with ⟨rfl, rfl, rfl⟩ | ⟨rfl, rfl, hn', rfl⟩ | ⟨rfl, rfl, rfl⟩ | ⟨rfl, rfl, hs'⟩
    · simp [showL] at h
      rw [h]
    · simp [showL] at h
    · simp [showL] at h
    · obtain ⟨d, r, e, hd⟩ := show3_head n' s' []
      rw [e] at h
      simp [showL] at h
      omega
  · rcases c' with ⟨rfl, rfl, rfl⟩ | ⟨rfl, rfl, hn', rfl⟩ | ⟨rfl, rfl, rfl⟩ | ⟨rfl, rfl, hs'⟩
    · simp [showL] at h
    · simp [showL] at h
      have := congrArg valL h
      rw [valL_digits, valL_digits] at this
      rw [show n = n' by omega]
    · simp [showL] at h
    · obtain ⟨d, r, e, hd⟩ := show3_head n' s' []
      rw [e] at h
      simp [showL] at h
      omega
  · rcases c' with ⟨rfl, rfl, rfl⟩ | ⟨rfl, rfl, hn', rfl⟩ | ⟨rfl, rfl, rfl⟩ | ⟨rfl, rfl, hs'⟩
    · simp [showL] at h
    · simp [showL] at h
    · simp [showL] at h
      have := congrArg (unesc false) h
      rw [unesc_esc, unesc_esc] at this
      rw [this]
    · obtain ⟨d, r, e, hd⟩ := show3_head n' s' []
      rw [e] at h
      simp [showL] at h
      omega
  · obtain ⟨d, r, e, hd⟩ := show3_head n s []
    rcases c' with ⟨rfl, rfl, rfl⟩ | ⟨rfl, rfl, hn', rfl⟩ | ⟨rfl, rfl, rfl⟩ | ⟨rfl, rfl, hs'⟩
    · rw [e] at h
      simp [showL] at h
      omega
    · rw [e] at h
      simp [showL] at h
      omega
    · rw [e] at h
      simp [showL] at h
      omega
    · obtain ⟨e1, e2⟩ := show3_inj hs hs' h
      rw [e1, e2]
end Go.Proofs.YtobnpfcgcoooeaaGreatDoor

/- StpG -/
namespace Go.Proofs.YtobnpfcgcoooeaaGreatDoor
open Go.RowKit Go.Deep Go.Maps
set_option maxRecDepth 100000

theorem keyed_str : Keyed Tryz.prog 9 := string_keyed Tryz.underlying9
theorem zero_int (w : World) : (zeroValue 3).run Tryz.prog w = .ok (.int .i64 0) w := by kernel_rfl
/-- The key of a term. -/
def TD.key (x : TD) : Lit := .string (strOfNums x.shown).data.toList
theorem TD.shown_byt {x : TD} (hx : x.good) : Byt x.shown := shownL_byt hx.2
theorem TD.key_inj {x y : TD} (hx : x.good) (hy : y.good) (h : x.key = y.key) : x = y := by
  unfold TD.key at h
  injection h with h
  refine TD.shown_inj hx hy ?_
  rw [← numsOf_nums (TD.shown_byt hx), ← numsOf_nums (TD.shown_byt hy)]
  unfold numsOf
  rw [h]
theorem strOf_len {bs : List Int} (h : Byt bs) : (strOfNums bs).size = bs.length := by
  rw [← numsOf_len, numsOf_nums h]
theorem TD.keyOf {x : TD} (hx : x.good) : keyOf Tryz.prog 9 (.string (strOfNums x.shown)) = some x.key := by
  refine WideMaps.keyOf_string_mk Tryz.underlying9 ?_
  rw [strOf_len (TD.shown_byt hx)]
  have := shownL_len x.k x.n x.s x.bs
  unfold TD.shown maxLen
  omega

/-- A map that has the numbers of these terms. -/
structure NumD (D : DataW Unit) (l : List TD) : Prop where
  map : IsMap D
  num : ∀ t : TD, t.good → D.atKey t.key (.lit (.int .i64 0)) = .lit (.int .i64 (idOf l t : Nat))
theorem NumD.nil : NumD (.map []) [] := ⟨isMap_empty, fun t _ => by
  rw [WideAt.atKey_none _ (fun p hp => by cases hp)]
  rfl⟩
theorem NumD.step {D : DataW Unit} {l : List TD} {x : TD} (h : NumD D l) (hx : x.good) (hl : ∀ y ∈ l, y.cmp x < 0) : NumD (D.put x.key (.lit (.int .i64 ((l.length : Int) + 1)))) (l ++ [x]) := by
  refine ⟨h.map.put _ _, fun t ht => ?_⟩
  by_cases e : t = x
  · subst e
    rw [atKey_put_same h.map (show WideAt.IsKeyLit t.key from trivial)]
    have : idOf (l ++ [t]) t = l.length + 1 := by
      refine idOf_at (by simp) (fun j hj => ?_) ?_
      · rw [List.getElem_append_left hj]
        have := hl _ (List.getElem_mem hj)
        omega
      · rw [List.getElem_append_right (Nat.le_refl _)]
        simpa using ord_cmp.self t
    rw [this]
    push_cast
    rfl
  · rw [atKey_put_other (fun hk => e (TD.key_inj ht hx hk)), h.num t ht]
    have hne : ¬ x.cmp t = 0 := fun h0 => e (ordP_cmp.2 x t hx ht h0).symm
    have : idOf (l ++ [x]) t = idOf l t := by
      unfold idOf
      rw [List.findIdx?_append]
      simp [List.findIdx?_cons, hne]
    rw [this]
theorem ownsMap_block {w w' : World} {P : Program} {k : TypeId} {R : Value → Option (DataW Unit × List MemPlace)} {b n : Nat} {D : DataW Unit} (h : w.ownsMap P k R b n D) (e : w'.heap[b]? = w.heap[b]?) : w'.ownsMap P k R b n D := by
  obtain ⟨es, clock, hb, r⟩ := h
  exact ⟨es, clock, e.trans hb, r⟩

theorem implShow_tb (x : TB) (w : World) (hx : x.good) (h : Bs w x.t.a x.t.len x.b) (ht : Tab w) :
    Calls Tryz.prog 32 #[.agg #[.int .i64 x.t.k, .slice x.t.a x.t.len x.t.cap, .int .i64 x.t.n, .int .i64 x.t.s]] w fun e w' => TxRes w x.td.shown e w' := by
  obtain ⟨a1, a2, a3, a4⟩ := fits_of_ok hx.1
  exact implShow_any x.t.k x.t.n x.t.s x.t.a x.t.len x.t.cap x.b w h a1 a2 a3 a4 ht

/-- What numbersOf answers. -/
def NumsRes (w : World) (l : List TD) (e : Ending) (w' : World) : Prop :=
  ∃ D, e = .returned (.map (some w.heap.size)) ∧ w'.ownsMap Tryz.prog 9 (plainElem Tryz.prog 3) w.heap.size l.length D ∧ NumD D l ∧ Below w.heap.size w w'

set_option maxHeartbeats 4000000 in
theorem numbersOf_any (a : Option Addr) (cap : Nat) (r : List TB) (w : World) (hn : r.length ≤ 1048576) (hR : TRow w a r) (hT : TTxt w r) (hg : ∀ y ∈ r, y.good) (hs : (r.map TB.td).Pairwise (fun x y => x.cmp y < 0)) (ht : Tab w) :
    Calls Tryz.prog 17 #[.slice a r.length cap] w (NumsRes w (r.map TB.td)) := by
  have hmm := @run_makeMap Tryz.prog
  by_cases h0 : r = []
  · subst h0
    go_enter Tryz.func17, Tryz.ntmps17
    go_wp2
    refine wp_loop_rounds 1 ?_
    rw [rounds_succ]
    go_wp2
    go_ret
    exact ⟨.map [], rfl, World.ownsMap_made _ _ _ _, NumD.nil, bl_a _⟩
  · obtain ⟨b, off, rfl, hlt, hc⟩ := hR.resolve_left h0
    have HC : Hid (∀ j u, (flat4 r)[j]? = some u → w.cell? ⟨b, off + j, none⟩ = some u) := hc
    have HT : Hid (TTxt w r) := hT
    have HG : Hid (∀ y ∈ r, y.good) := hg
    have HS : Hid ((r.map TB.td).Pairwise (fun x y => x.cmp y < 0)) := hs
    have HTab : Hid (Tab w) := ht
    obtain ⟨n, hn'⟩ : ∃ n, n = r.length := ⟨_, rfl⟩
    have HN : Hid (n = r.length) := hn'
    rw [← hn'] at hn ⊢
    clear hR hc hT hg hs ht h0 hn'
    go_enter Tryz.func17, Tryz.ntmps17
    go_wp2
    go_loopw [9] (fun v9 wr => ∃ (k : Nat) (D : DataW Unit), k ≤ n ∧ v9 = .int .i64 k ∧ Hid (wr.ownsMap Tryz.prog 9 (plainElem Tryz.prog 3) w.heap.size k D) ∧ Hid (NumD D ((r.map TB.td).take k)) ∧ Hid (Below w.heap.size w wr))
      (fun v9 _ => n - (intOf v9).toNat)
    case atStart => exact ⟨0, .map [], Nat.zero_le _, rfl, World.ownsMap_made _ _ _ _, NumD.nil, bl_a _⟩
    case round =>
      obtain ⟨k, D, hk, rfl, HO, HD, HB⟩ := hrel
      have hBw : w.heap.size < wr.heap.size := HO.out.lt
      by_cases hlk : k < n
      · have hlkz : (k : Int) < (n : Int) := by omega
        have hkr : k < r.length := by rw [← HN.out]; exact hlk
        obtain ⟨x, hx⟩ : ∃ x, r[k] = x := ⟨_, rfl⟩
        have HX : Hid (r[k]? = some x) := (show r[k]? = some x by rw [List.getElem?_eq_getElem hkr, hx])
        have hat := TRow.at (w := wr) (b := b) (off := off) (l := r) (fun j u hu => (HB.out.cell (p := ⟨b, off + j, none⟩) hlt).trans (HC.out j u hu)) k hkr
        rw [hx] at hat
        obtain ⟨x0, x1, x2, x3⟩ := hat
        have hxm : x ∈ r := List.mem_of_getElem? HX.out
        have HXG : Hid x.good := HG.out x hxm
        have HSH := fun o => implShow_tb x (wr.alloc o) HXG.out ((HT.out x hxm).below (HB.out.trans ((bl_a o).mono (Nat.le_of_lt hBw)))) (HTab.out.below (HB.out.trans ((bl_a o).mono (Nat.le_of_lt hBw))))
        clear hx hxm
        go_wp2_with fail
        refine (HSH _).mono ?_
        rintro e w2 ⟨a2, cap2, rfl, HNw, HB2⟩
        clear HSH
        have hst := HNw.bs.str (cap := cap2)
        have HB2 : Hid (Below (wr.heap.size + 1) (wr.alloc (.cells #[.int .i64 x.t.k, .slice x.t.a x.t.len x.t.cap, .int .i64 x.t.n, .int .i64 x.t.s] 37)) w2) := (show Below _ _ _ by simpa using HB2)
        have HO2 : Hid (w2.ownsMap Tryz.prog 9 (plainElem Tryz.prog 3) w.heap.size k D) := ownsMap_block HO.out ((HB2.out.block _ (by omega)).trans (Below.heap_alloc _ _ _ hBw))
        have HBw2 : Hid (Below w.heap.size w w2) := HB.out.trans (((bl_a _).trans (HB2.out.mono (Nat.le_succ _))).mono (Nat.le_of_lt hBw))
        clear HNw x0 x1 x2 x3
        have hx4 : w2.cell? ⟨wr.heap.size, 0, none⟩ = some (.int .i64 x.t.k) := (HB2.out.cell (p := ⟨wr.heap.size, 0, none⟩) (Nat.lt_succ_self _)).trans (by simp [go_sem])
        have hsz2 : w.heap.size ≤ w2.heap.size := HBw2.out.size
        have HWF : (Lit.int .i64 ((k : Int) + 1)).wf = true := WalkArith.wf_i64 ⟨by omega, by omega⟩
        go_wp2_with (first | (at_mapUpdate; refine wpList_mapUpdate_own _ rfl _ _ _ 53 rfl 9 3 keyed_str Tryz.underlying53 _ w.heap.size k D rfl HO2.out (by unfold maxLen; omega) _ _ _ rfl rfl (TD.keyOf HXG.out) _ [] (plainElem_int Tryz.underlying3 HWF) ?_; intro w3 HO3 HG3))
        have HO3 : Hid (w3.ownsMap Tryz.prog 9 (plainElem Tryz.prog 3) w.heap.size (k + 1) (D.put x.td.key (.lit (.int .i64 ((k : Int) + 1))))) := HO3
        have HB3 : Hid (Below w.heap.size w w3) := HBw2.out.grown HG3 hsz2 (fun j hj => by cases hj; exact Nat.le_refl _)
        clear HG3
        go_wp2
        go_roundw
        case rel =>
          refine ⟨k + 1, _, by omega, by go_num, HO3, (show NumD _ _ from ?_), HB3⟩
          have hlen : ((r.map TB.td).take k).length = k := by rw [List.length_take, List.length_map]; omega
          have hst := HD.out.step (x := x.td) HXG.out (fun y hy => ?_)
          · rw [hlen] at hst
            rw [List.take_add_one, List.getElem?_map, HX.out]
            exact hst
          · obtain ⟨i, hi, rfl⟩ := List.mem_iff_getElem.1 hy
            rw [List.length_take] at hi
            have hi2 : i < (r.map TB.td).length := by omega
            have hk2 : k < (r.map TB.td).length := by rw [List.length_map]; exact hkr
            have := List.pairwise_iff_getElem.1 HS.out i k hi2 hk2 (by omega)
            have e : (r.map TB.td)[k] = x.td := by
              have h1 : (r.map TB.td)[k]? = some x.td := by rw [List.getElem?_map, HX.out]; rfl
              exact (List.getElem?_eq_some_iff.1 h1).2
            rw [e] at this
            rw [List.getElem_take]
            exact this
        case measure => simp [intOf]; omega
      · have hlkz : ¬ (k : Int) < (n : Int) := by omega
        have hkn : Hid (k = n) := (show k = n by omega)
        go_wp2
        go_ret
        have h1 := HD.out
        rw [hkn.out, HN.out, List.take_of_length_le (by simp)] at h1
        have h2 := HO.out
        rw [hkn.out, HN.out] at h2
        exact ⟨D, rfl, by rw [List.length_map]; exact h2, h1, HB.out⟩
end Go.Proofs.YtobnpfcgcoooeaaGreatDoor
