/- szTripleS, toTripleS: rows of triples that came in, measured and copied. -/
import Derived.Test.YtmpiadlmkeimdaaDoorGraA
import Derived.Test.YtmpiadlmkeimdaaDoorTriD
namespace Go.Proofs.YtmpiadlmkeimdaaDoor
open Go.RowKit Go.Deep

/-- What measuring answers: a number; unless it is below 0 all are short. -/
def SzRes (n : Nat) (T U V : Nat → Tm) (e : Ending) : Prop := ∃ r : Int, e = .returned (.int .i64 r) ∧ r ≤ 1048576 ∧ (¬ r < 0 → n ≤ 1048576 ∧ ∀ i, i < n → (T i).len ≤ 1048576 ∧ (U i).len ≤ 1048576 ∧ (V i).len ≤ 1048576) ∧ (r < 0 → r = -1)

theorem szTripleS_any (a : Option Addr) (n cap : Nat) (T U V : Nat → Tm) (l : Int) (w : World) (h1 : 0 ≤ l) (h2 : l ≤ 1048576) (hn : n ≤ 9223372036854775807) (hR : Rows w a n T U V)
    (lt : ∀ i, i < n → (T i).len ≤ 9223372036854775807) (lu : ∀ i, i < n → (U i).len ≤ 9223372036854775807) (lv : ∀ i, i < n → (V i).len ≤ 9223372036854775807) :
    Calls Tryd.prog 29 #[.slice a n cap, .int .i64 l] w fun e w' => SzRes n T U V e ∧ Below w.heap.size w w' := by
  by_cases hbig : l < n
  · clear hR lt lu lv
    go_enter Tryd.func29, Tryd.ntmps29
    go_wp2
    go_ret
    exact ⟨⟨-1, rfl, by omega, fun h => absurd (by omega) h, fun _ => rfl⟩, Below.refl _ _⟩
  by_cases hn0 : n = 0
  · subst hn0
    clear hR lt lu lv
    go_enter Tryd.func29, Tryd.ntmps29
    go_wp2
    refine wp_loop_rounds 1 ?_
    rw [rounds_succ]
    go_wp2
    go_ret
    exact ⟨⟨_, rfl, by omega, fun _ => ⟨by omega, fun i hi => by omega⟩, fun h => by omega⟩, Below.refl _ _⟩
  obtain ⟨b, off, rfl, hlt, hc⟩ := hR.resolve_left hn0
  clear hR
  have HT : Hid (∀ i, i < n → (T i).len ≤ 9223372036854775807) := lt
  have HU : Hid (∀ i, i < n → (U i).len ≤ 9223372036854775807) := lu
  have HV : Hid (∀ i, i < n → (V i).len ≤ 9223372036854775807) := lv
  have HC : Hid (∀ i, i < n → Row12 w b (off + i * 12) (T i) (U i) (V i)) := hc
  clear lt lu lv hc
  go_enter Tryd.func29, Tryd.ntmps29
  go_wp2
  go_loopw [1, 5] (fun x i wr => ∃ (k : Nat) (r : Int), k ≤ n ∧ i = .int .i64 k ∧ x = .int .i64 r ∧ 0 ≤ r ∧ r ≤ 1048576 ∧ Below w.heap.size w wr ∧ Hid (∀ i, i < k → (T i).len ≤ 1048576 ∧ (U i).len ≤ 1048576 ∧ (V i).len ≤ 1048576))
    (fun _ i _ => n - (intOf i).toNat)
  case atStart => exact ⟨0, _, Nat.zero_le _, rfl, rfl, by omega, by omega, Below.refl _ _, fun i hi => by omega⟩
  case round =>
    obtain ⟨k, r, hk, rfl, rfl, hr0, hr1, hb, HH⟩ := hrel
    by_cases hlk : k < n
    · have hx := (HC.out k hlk).of_block (hb.block b hlt)
      have Z := fun w => szTriple_any (T k) (U k) (V k) r w hr0 hr1 (HT.out k hlk) (HU.out k hlk) (HV.out k hlk)
      have Z1 : Hid (0 ≤ left3 r (T k) (U k) (V k) → (T k).len ≤ 1048576 ∧ (U k).len ≤ 1048576 ∧ (V k).len ≤ 1048576 ∧ left3 r (T k) (U k) (V k) ≤ 1048576) := by
        intro h
        have := left3_pos (by omega : ¬ left3 r (T k) (U k) (V k) < 0)
        omega
      generalize left3 r (T k) (U k) (V k) = q at *
      obtain ⟨⟨x0, x1, x2, x3⟩, ⟨x4, x5, x6, x7⟩, ⟨x8, x9, xa, xb⟩⟩ := hx
      go_wp2_with fail
      refine (Z _).mono ?_
      rintro e w2 ⟨rfl, hb2⟩
      clear x0 x1 x2 x3 x4 x5 x6 x7 x8 x9 xa xb
      by_cases hq : q < 0
      · go_wp2
        go_ret
        exact ⟨⟨-1, rfl, by omega, fun h => absurd (by omega) h, fun _ => rfl⟩, bl_trans hb hb2⟩
      · have Z2 := Z1.out (by omega)
        clear Z
        go_wp2
        go_roundw
        case rel =>
          refine ⟨k + 1, q, by omega, by go_num, rfl, by omega, by omega, bl_trans hb hb2, fun i hi => ?_⟩
          by_cases e : i = k
          · subst e; exact ⟨by omega, by omega, by omega⟩
          · exact HH.out i (by omega)
        case measure => simp [intOf]; omega
    · obtain rfl : k = n := by omega
      go_wp2
      go_ret
      exact ⟨⟨r, rfl, hr1, fun _ => ⟨by omega, HH.out⟩, fun h => by omega⟩, hb⟩
end Go.Proofs.YtmpiadlmkeimdaaDoor
