/- Show: rows of bytes of the call's own that grow; the model's l1digits. -/
import Derived.Test.YtmpiadlmkeimdaaDoorTokE
import Derived.Test.YtmpiadlmkeimdaaDoorTokF
import Derived.Deep.AppendLies
namespace Go.Proofs.YtmpiadlmkeimdaaDoor
open Go.RowKit Go.Deep
set_option maxRecDepth 100000

/-- The digits of n, as bytes, at most f and one of them. -/
def digF : Nat → Nat → List Int
  | 0, n => [48 + (n : Int) % 10]
  | f + 1, n => if n < 10 then [48 + (n : Int)] else digF f (n / 10) ++ [48 + (n : Int) % 10]
/-- The digits of n, as bytes. -/
def digitsL (n : Nat) : List Int := digF n n
theorem digF_small {n : Nat} (h : n < 10) : ∀ f, digF f n = [48 + (n : Int)]
  | 0 => by
    have : (n : Int) % 10 = n := by omega
    simp [digF, this]
  | f + 1 => by simp [digF, h]
theorem digF_like : ∀ (f g n : Nat), n ≤ f → n ≤ g → digF f n = digF g n
  | 0, g, n, h, _ => by rw [digF_small (by omega), digF_small (by omega)]
  | f + 1, 0, n, _, h => by rw [digF_small (by omega), digF_small (by omega)]
  | f + 1, g + 1, n, h1, h2 => by
    by_cases h : n < 10
    · rw [digF_small h, digF_small h]
    · simp only [digF, h, if_false]
      rw [digF_like f g (n / 10) (by omega) (by omega)]
theorem digitsL_small {n : Nat} (h : n < 10) : digitsL n = [48 + (n : Int)] := digF_small h n
theorem digitsL_step {n : Nat} (h : ¬ n < 10) : digitsL n = digitsL (n / 10) ++ [48 + (n : Int) % 10] := by
  obtain ⟨m, rfl⟩ : ∃ m, n = m + 1 := ⟨n - 1, by omega⟩
  unfold digitsL
  rw [digF_like ((m + 1) / 10) m ((m + 1) / 10) (by omega) (by omega)]
  simp only [digF, h, if_false]
theorem digitsL_len (k : Nat) : ∀ n : Nat, n < 10 ^ (k + 1) → (digitsL n).length ≤ k + 1 := by
  induction k with
  | zero => intro n h; rw [digitsL_small (by omega)]; simp
  | succ k ih =>
    intro n h
    by_cases h0 : n < 10
    · rw [digitsL_small h0]; simp
    · rw [digitsL_step h0]
      have := ih (n / 10) (by rw [Nat.pow_succ] at h; omega)
      simp
      omega

/-- A row of bytes of the call's own, in block g, that may grow. -/
def Row8 (w : World) (B g n cap : Nat) (bs : List Int) : Prop := w.ownsRow B 5 1 (.slice (some ⟨g, 0, none⟩) n cap) n (bs.map (Value.int .u8)) ∧ g < w.heap.size
/-- A row of bytes that is new. -/
theorem Row8.new (w : World) (x : Int) : Row8 (w.alloc (.cells #[.int .u8 x] 5)) w.heap.size w.heap.size 1 1 [x] := by
  refine ⟨⟨rfl, .inr ⟨w.heap.size, 1, #[.int .u8 x], rfl, Nat.le_refl _, by simp [World.alloc, -World.alloc_eq], by omega, by unfold maxLen; omega, rfl, rfl⟩⟩, by simp⟩
theorem Row8.below {w w' : World} {B g n cap : Nat} {bs : List Int} (h : Row8 w B g n cap bs) (hb : Below w.heap.size w w') : Row8 w' B g n cap bs := by
  obtain ⟨⟨h1, h2⟩, hl⟩ := h
  refine ⟨⟨h1, ?_⟩, Nat.lt_of_lt_of_le hl hb.size⟩
  rcases h2 with ⟨h2, _⟩ | ⟨g', cap', cur, hv, hB, hh, r⟩
  · cases h2
  · refine .inr ⟨g', cap', cur, hv, hB, ?_, r⟩
    cases hv
    rw [hb.block g hl]
    exact hh
theorem Row8.mono {w : World} {B B' g n cap : Nat} {bs : List Int} (h : Row8 w B g n cap bs) (hB : B' ≤ B) : Row8 w B' g n cap bs := by
  obtain ⟨⟨h1, h2⟩, hl⟩ := h
  refine ⟨⟨h1, ?_⟩, hl⟩
  rcases h2 with ⟨h2, _⟩ | ⟨g', cap', cur, hv, hb, r⟩
  · cases h2
  · exact .inr ⟨g', cap', cur, hv, Nat.le_trans hB hb, r⟩
/-- What growing leaves of what was there. -/
theorem grown_below {w w' : World} {B g : Nat} (h : w.grownBy w' (some g)) (hB : B ≤ g) (hw : B ≤ w.heap.size) : Below B w w' :=
  ⟨h.os, h.tape, h.output, h.size, fun b hb => h.block b (by omega) (by intro e; cases e; omega)⟩

/-- What digits answer. -/
def DigRes (w : World) (bs : List Int) (e : Ending) (w' : World) : Prop := ∃ g cap, e = .returned (.slice (some ⟨g, 0, none⟩) bs.length cap) ∧ Row8 w' w.heap.size g bs.length cap bs ∧ Below w.heap.size w w'
theorem l1digits_any : ∀ (n : Nat) (w : World), n ≤ 9223372036854775807 → Calls Tryd.prog 37 #[.int .i64 n] w fun e w' => DigRes w (digitsL n) e w' := by
  intro n
  induction n using Nat.strongRecOn with
  | ind n ih =>
    intro w hn
    obtain ⟨i0, hi0, hzz⟩ := Option.map_eq_some_iff.1 Tryd.info5
    simp only [Prod.mk.injEq] at hzz
    obtain ⟨hi2, hi1, hi3⟩ := hzz
    by_cases h : n < 10
    · rw [digitsL_small h]
      have hw : IntKind.u8.wrap (48 + (n : Int)) = 48 + (n : Int) := by rw [IntKind.wrap_u8]; omega
      clear ih hi0 hi1 hi2 hi3
      go_enter Tryd.func37, Tryd.ntmps37
      go_wp2
      go_ret
      exact ⟨w.heap.size, 1, rfl, Row8.new w _, bl_a _⟩
    · have IH : Calls Tryd.prog 37 #[.int .i64 ((n : Int) / 10)] w fun e w' => DigRes w (digitsL (n / 10)) e w' := by
        have := ih (n / 10) (by omega) w (by omega)
        rwa [Int.natCast_ediv] at this
      clear ih
      rw [digitsL_step h]
      have hw : IntKind.u8.wrap (48 + ((n : Int) % 10)) = 48 + (n : Int) % 10 := by rw [IntKind.wrap_u8]; omega
      have hL := digitsL_len 19 (n / 10) (by omega)
      generalize digitsL (n / 10) = ds at *
      go_enter Tryd.func37, Tryd.ntmps37
      go_wp2_with fail
      refine IH.mono ?_
      rintro e w1 ⟨g, cap, rfl, hr, hb⟩
      have hr2 := hr.below (bl_a (.cells #[.int .u8 (48 + (n : Int) % 10)] 5))
      have hb2 := bl_trans hb (bl_a (.cells #[.int .u8 (48 + (n : Int) % 10)] 5))
      have hnw : ∀ j u, [Value.int .u8 (48 + (n : Int) % 10)][j]? = some u → (w1.alloc (.cells #[.int .u8 (48 + (n : Int) % 10)] 5)).cell? ((⟨w1.heap.size, 0, none⟩ : Addr).add j) = some u := by
        intro j u hj
        have hj0 : j = 0 := by
          cases j with
          | zero => rfl
          | succ j => simp at hj
        subst hj0
        simp at hj
        subst hj
        simp [Addr.add, go_sem]
      have HO : Hid (Row8 (w1.alloc (.cells #[.int .u8 (48 + (n : Int) % 10)] 5)) w.heap.size g ds.length cap ds) := hr2
      have HN : Hid (∀ j u, [Value.int .u8 (48 + (n : Int) % 10)][j]? = some u → (w1.alloc (.cells #[.int .u8 (48 + (n : Int) % 10)] 5)).cell? ((⟨w1.heap.size, 0, none⟩ : Addr).add j) = some u) := hnw
      have hgB : w.heap.size ≤ g := by
        rcases hr.1.2 with ⟨h, _⟩ | ⟨g', cap', cur, hv, hB, _⟩
        · cases h
        · cases hv; exact hB
      have hs := hb2.size
      clear hr hr2 hnw hb IH
      go_wp2_with (refine wpList_append_lies _ rfl (.tmp 11) (.tmp 16) 22 rfl w.heap.size 5 i0 (.int .u8 0) 1 1 Tryd.underlying22 hi0 hi2 hi1 hi3 rfl (by omega) (.slice (some ⟨g, 0, none⟩) ds.length cap) ds.length (ds.map (Value.int .u8)) rfl HO.out.1 ⟨w1.heap.size, 0, none⟩ 1 1 [.int .u8 (48 + (n : Int) % 10)] rfl rfl HN.out (by simp [Value.oneCell']) (by omega) (by unfold maxLen; omega) (by omega) hs _ rfl ?_; intro g' cap' w3 hown hgr hgg hlt)
      go_ret
      refine ⟨g', cap', by simp, ⟨?_, hlt⟩, hb2.trans (grown_below hgr hgB hs)⟩
      simpa using hown
end Go.Proofs.YtmpiadlmkeimdaaDoor
