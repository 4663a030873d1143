/- The contracts of eqByteS, szByteS, toTerm, eqTerm, szTerm: the law's own helpers on whole terms. -/
import Derived.Test.YtmpiadlmkeimdaaDoorTxtA
namespace Go.Proofs.YtmpiadlmkeimdaaDoor
open Go.RowKit Go.Deep

theorem list_eq_of (xs bs : List Int) (h : xs.length = bs.length) (H : ∀ j : Nat, j < xs.length → xs[j]?.getD 0 = bs[j]?.getD 0) : xs = bs := by
  apply List.ext_getElem h
  intro i h1 h2
  have := H i h1
  simpa [h1, h2] using this
theorem list_ne_of (xs bs : List Int) (k : Nat) (H : xs[k]?.getD 0 ≠ bs[k]?.getD 0) : xs ≠ bs := by
  intro e; subst e; exact H rfl

theorem eqByteS_any (a b : Option Addr) (la lb ca cb : Nat) (xs bs : List Int) (w : World) (hA : Bs w a la xs) (hB : Bs w b lb bs) :
    Calls Tryd.prog 9 #[.slice a la ca, .slice b lb cb] w fun e w' => e = .returned (.bool (decide (xs = bs))) ∧ ∃ q, w' = w.drewN q := by
  obtain ⟨hla, h2a, h3a, h4a⟩ := hA
  obtain ⟨hlb, h2b, h3b, h4b⟩ := hB
  by_cases hne : la = lb
  · subst hne
    rcases h4a with h4a | ⟨ba, offa, rfl, hlta, hca⟩
    · subst h4a
      have e : xs = bs := by
        rw [List.eq_nil_of_length_eq_zero hla, List.eq_nil_of_length_eq_zero hlb]
      have e' : decide (xs = bs) = true := by simp [e]
      rw [e']
      go_enter Tryd.func9, Tryd.ntmps9
      go_wp2
      refine wp_loop_rounds 1 ?_
      rw [rounds_succ]
      go_wp2
      go_ret
      exact ⟨rfl, 0, rfl⟩
    · rcases h4b with h4b | ⟨bb, offb, rfl, hltb, hcb⟩
      · subst h4b
        have e : xs = bs := by
          rw [List.eq_nil_of_length_eq_zero hla, List.eq_nil_of_length_eq_zero hlb]
        have e' : decide (xs = bs) = true := by simp [e]
        rw [e']
        go_enter Tryd.func9, Tryd.ntmps9
        go_wp2
        refine wp_loop_rounds 1 ?_
        rw [rounds_succ]
        go_wp2
        go_ret
        exact ⟨rfl, 0, rfl⟩
      · go_enter Tryd.func9, Tryd.ntmps9
        go_wp2
        go_loopw [5] (fun i wr => ∃ k q : Nat, k ≤ la ∧ i = .int .i64 k ∧ wr = w.drewN q ∧ ∀ j : Nat, j < k → xs[j]?.getD 0 = bs[j]?.getD 0)
          (fun i _ => la - (intOf i).toNat)
        case atStart => exact ⟨0, 0, Nat.zero_le _, rfl, rfl, by intro j hj; omega⟩
        case round =>
          obtain ⟨k, q, hk, rfl, rfl, hH⟩ := hrel
          have HA : Hid (xs.length = la) := hla
          have HB : Hid (bs.length = la) := hlb
          have HH : Hid (∀ j : Nat, j < k → xs[j]?.getD 0 = bs[j]?.getD 0) := hH
          by_cases hlt : k < la
          · have hx := hca k hlt
            have hy := hcb k hlt
            clear hca hcb hla hlb hH h3a h3b
            go_wp2
            go_region
            all_goals go_wp2
            · have hd : (xs[k]?.getD 0 != bs[k]?.getD 0) = true := by assumption
              have : xs ≠ bs := list_ne_of xs bs k (by simpa using hd)
              go_ret
              exact ⟨by simp [this], _, rfl⟩
            · have hd : (xs[k]?.getD 0 != bs[k]?.getD 0) = false := by assumption
              have hd' : xs[k]?.getD 0 = bs[k]?.getD 0 := by simpa using hd
              go_roundw
              case rel => exact ⟨k + 1, q + 1, by omega, by go_num, rfl, fun j hj => by
                by_cases e : j = k
                · rw [e]; exact hd'
                · exact HH.out j (by omega)⟩
              case measure => simp [intOf]; omega
          · clear hca hcb hla hlb hH h3a h3b
            go_wp2
            go_ret
            refine ⟨?_, q, rfl⟩
            have : xs = bs := list_eq_of xs bs (HA.out.trans HB.out.symm) (fun j hj => HH.out j (by have := HA.out; omega))
            simp [this]
  · have e : xs ≠ bs := by intro e; subst e; exact hne (hla.symm.trans hlb)
    have e' : decide (xs = bs) = false := by simp [e]
    rw [e']
    have hz : ((la : Int) == (lb : Int)) = false := by simp; omega
    clear h4a h4b h3a h3b
    go_enter Tryd.func9, Tryd.ntmps9
    go_wp2
    go_ret
    exact ⟨rfl, 0, rfl⟩

theorem szByteS_any (a : Option Addr) (len cap : Nat) (left : Int) (w : World) (_h1 : 0 ≤ left) (_h2 : left ≤ 1048576) (_h3 : len ≤ 9223372036854775807) :
    Calls Tryd.prog 20 #[.slice a len cap, .int .i64 left] w fun e w' => e = .returned (.int .i64 (if left < len then -1 else left - len)) ∧ w' = w := by
  go_enter Tryd.func20, Tryd.ntmps20
  go_wp2
  all_goals go_ret
  all_goals exact ⟨rfl, rfl⟩

theorem toTerm_any (k n s : Int) (a : Option Addr) (len cap : Nat) (bs : List Int) (w : World) (hB : Bs w a len bs) :
    Calls Tryd.prog 7 #[.agg #[.int .i64 k, .slice a len cap, .int .i64 n, .int .i64 s]] w fun e w' =>
      ∃ g, e = .returned (.agg #[.int .i64 k, .slice (some ⟨g, 0, none⟩) len len, .int .i64 n, .int .i64 s]) ∧ Bs w' (some ⟨g, 0, none⟩) len bs ∧ Below w.heap.size w w' := by
  have hB3 : ∀ o1 o2 o3, Bs (((w.alloc o1).alloc o2).alloc o3) a len bs := fun o1 o2 o3 => hB.below (bl_alloc (bl_alloc (bl_alloc (Below.refl _ _) _) _) _)
  obtain ⟨hl, h2, h3, h4⟩ := hB
  clear h4
  have hM : ∀ (w : World) (g : Nat), g = w.heap.size → Bs (w.alloc (.cells (cellsOf bs) 5)) (some ⟨g, 0, none⟩) len bs := fun w g e => by subst e; exact Bs.made w bs len hl h2 h3
  clear h3
  go_enter Tryd.func7, Tryd.ntmps7
  go_wp2_with (go_at_call 23; refine (toByteS_any a len cap bs _ (hB3 _ _ _)).mono ?_; rintro e w1 ⟨rfl, rfl⟩)
  simp [bodyPost, results, Tryd.results7, go_sem]
  exact ⟨hM _ _ (by simp), bl_alloc (bl_alloc (bl_alloc (bl_alloc (Below.refl _ _) _) _) _) _⟩

/-- How much is left of the room for arguments. -/
def leftOf (left : Int) (len : Nat) : Int := if left < len then -1 else left - len

theorem szTerm_any (k n s : Int) (a : Option Addr) (len cap : Nat) (left : Int) (w : World) (h1 : 0 ≤ left) (h2 : left ≤ 1048576) (h3 : len ≤ 9223372036854775807) :
    Calls Tryd.prog 5 #[.agg #[.int .i64 k, .slice a len cap, .int .i64 n, .int .i64 s], .int .i64 left] w fun e w' => e = .returned (.int .i64 (leftOf left len)) ∧ Below w.heap.size w w' := by
  unfold leftOf
  go_enter Tryd.func5, Tryd.ntmps5
  go_wp2_with (go_at_call 20; refine (szByteS_any a len cap left _ h1 h2 h3).mono ?_; rintro e w1 ⟨rfl, rfl⟩)
  all_goals go_ret
  all_goals refine ⟨?_, bl_alloc (Below.refl _ _) _⟩
  all_goals (simp_all; try omega)

theorem keep4 {u w2 : World} {a b c d : Value} {t : TypeId} (h : Below (u.alloc (.cells #[a, b, c, d] t)).heap.size (u.alloc (.cells #[a, b, c, d] t)) w2) :
    w2.cell? ⟨u.heap.size, 0, none⟩ = some a ∧ w2.cell? ⟨u.heap.size, 1, none⟩ = some b ∧ w2.cell? ⟨u.heap.size, 2, none⟩ = some c ∧ w2.cell? ⟨u.heap.size, 3, none⟩ = some d ∧ u.heap.size < w2.heap.size := by
  have e : ∀ i, w2.cell? ⟨u.heap.size, i, none⟩ = (u.alloc (.cells #[a, b, c, d] t)).cell? ⟨u.heap.size, i, none⟩ := fun i => h.cell (by simp)
  have hs := h.size
  simp at hs
  simp [e, go_sem]
  omega

theorem eqTerm_any (k n s k' n' s' : Int) (a a' : Option Addr) (len cap len' cap' : Nat) (bs bs' : List Int) (w : World) (hB : Bs w a len bs) (hB' : Bs w a' len' bs') :
    Calls Tryd.prog 10 #[.agg #[.int .i64 k, .slice a len cap, .int .i64 n, .int .i64 s], .agg #[.int .i64 k', .slice a' len' cap', .int .i64 n', .int .i64 s']] w fun e w' =>
      e = .returned (.bool (decide (k = k' ∧ bs = bs' ∧ n = n' ∧ s = s'))) ∧ Below w.heap.size w w' := by
  have h1 : ∀ o1 o2, Bs ((w.alloc o1).alloc o2) a len bs := fun o1 o2 => hB.below (bl_alloc (bl_alloc (Below.refl _ _) _) _)
  have h2 : ∀ o1 o2, Bs ((w.alloc o1).alloc o2) a' len' bs' := fun o1 o2 => hB'.below (bl_alloc (bl_alloc (Below.refl _ _) _) _)
  clear hB hB'
  go_enter Tryd.func10, Tryd.ntmps10
  go_wp2_with (go_at_call 9; refine (eqByteS_any a a' len len' cap cap' bs bs' _ (h1 _ _) (h2 _ _)).mono ?_; rintro e w1 ⟨rfl, q, rfl⟩)
  all_goals go_ret
  all_goals refine ⟨?_, ?_⟩
  all_goals first | ((repeat (first | with_reducible exact Below.refl _ _ | with_reducible apply bl_alloc | with_reducible apply Below.drew | with_reducible apply below_drewN)); done) | skip
  all_goals (go_light; simp_all)
end Go.Proofs.YtmpiadlmkeimdaaDoor
