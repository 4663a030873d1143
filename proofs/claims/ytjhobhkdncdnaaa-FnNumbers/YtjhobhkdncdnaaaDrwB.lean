/- Draws: l1New, l1name, l1int. -/
import Derived.Test.YtjhobhkdncdnaaaDrwA
import Derived.Test.YtjhobhkdncdnaaaTokE
import Derived.Lib.ConvBytes
import Derived.Test.YtjhobhkdncdnaaaCalD
namespace Go.Proofs.Ytjhobhkdncdnaaa
open Go.RowKit Go.Deep

theorem and30 (x : Int) : 0 ≤ bits BinOp.and IntKind.i64 x 1073741823 ∧ bits BinOp.and IntKind.i64 x 1073741823 ≤ 1073741823 := by
  have h : ∃ n : Nat, n ≤ 1073741823 ∧ bits BinOp.and IntKind.i64 x 1073741823 = IntKind.i64.wrap n := by
    refine ⟨(BitVec.ofInt 64 x &&& BitVec.ofInt 64 1073741823).toNat, ?_, rfl⟩
    rw [BitVec.toNat_and]
    exact Nat.le_trans Nat.and_le_right (by decide)
  obtain ⟨n, hn, e⟩ := h
  rw [e, IntKind.wrap_i64]
  omega

/-- What a new cursor is. -/
def CurRes (w : World) (a : Option Addr) (len cap : Nat) (e : Ending) (w' : World) : Prop := e = .returned (.pointer (some ⟨w.heap.size, 0, none⟩)) ∧ Below w.heap.size w w' ∧ Cur w' w.heap.size a len cap
set_option maxRecDepth 20000 in
theorem l1New_any (a : Option Addr) (len cap : Nat) (w : World) (_hlen : len ≤ 9223372036854775807) (hC : Code w a len) :
    Calls Try.prog 13 #[.slice a len cap] w fun e w' => CurRes w a len cap e w' := by
  have HC : Hid (Code w a len) := hC
  have HE : Hid (∀ h : Int, ∀ T, Cur (w.alloc (.cells #[.slice a len cap, .int .i64 0, .int .i64 h] T)) w.heap.size a len cap) := by
    intro h T
    refine ⟨by simp, by simp [go_sem], ⟨0, Nat.zero_le _, by simp [go_sem]⟩, ⟨h, by simp [go_sem]⟩, by simp [go_sem], by simp [go_sem], ?_⟩
    rcases hC with hc | ⟨b, off, ha, hlt, hc⟩
    · exact .inl hc
    · refine .inr ⟨b, off, ha, by simp; omega, by omega, fun i hi => ?_⟩
      rw [(bl_a (w := w) _).cell (p := ⟨b, off + i, none⟩) hlt]
      exact hc i hi
  clear hC
  go_enter Try.func13, Try.ntmps13
  go_wp2
  go_loopw [3, 4] (fun x i wr => ∃ (k : Nat) (h : Int), k ≤ len ∧ k ≤ 4000 ∧ i = .int .i64 k ∧ x = .int .i64 h ∧ wr = w)
    (fun _ i _ => 4000 - (intOf i).toNat)
  case atStart => exact ⟨0, _, Nat.zero_le _, Nat.zero_le _, rfl, rfl, rfl⟩
  case round =>
    obtain ⟨k, h, hk, hk4, rfl, rfl, rfl⟩ := hrel
    by_cases hlk : k < len
    · by_cases hl4 : k < 4000
      · obtain ⟨b, off, rfl, hlt, hc⟩ := HC.out.resolve_left (by omega)
        obtain ⟨v, cv, v0, v1⟩ := hc k hlk
        clear hc
        go_wp2
        go_roundw
        case rel => exact ⟨k + 1, ⟨_, by omega, by omega, by go_num, rfl, trivial⟩⟩
        case measure => simp [intOf]; omega
      · have h4 : decide ((k : Int) < 4000) = false := by simp; omega
        go_wp2
        go_ret
        exact ⟨rfl, bl_a _, HE.out _ _⟩
    · go_wp2
      go_ret
      exact ⟨rfl, bl_a _, HE.out _ _⟩


/-- A text that is none, or lies in a block of its own from B on; what is behind it may be written. -/
def Tx (w : World) (B : Nat) (a : Option Addr) (len cap : Nat) (bs : List Int) : Prop :=
  Bs w a len bs ∧ ((a = none ∧ len = 0 ∧ cap = 0) ∨ ∃ g, a = some ⟨g, 0, none⟩ ∧ B ≤ g ∧ g < w.heap.size ∧ len ≤ cap ∧ ∀ j, j < cap → (∃ v, w.cell? ⟨g, j, none⟩ = some (.int .u8 v)) ∧ w.frozen? ⟨g, j, none⟩ = false)
theorem Tx.below {w w' : World} {B : Nat} {a : Option Addr} {len cap : Nat} {bs : List Int} (h : Tx w B a len cap bs) (hb : Below w.heap.size w w') : Tx w' B a len cap bs := by
  refine ⟨h.1.below hb, ?_⟩
  rcases h.2 with h2 | ⟨g, ha, hB, hg, hl, hc⟩
  · exact .inl h2
  · refine .inr ⟨g, ha, hB, Nat.lt_of_lt_of_le hg hb.size, hl, fun j hj => ?_⟩
    rw [hb.cell (p := ⟨g, j, none⟩) hg, hb.frozen (p := ⟨g, j, none⟩) hg]
    exact hc j hj
theorem Tx.past {w w' : World} {B c : Nat} {a : Option Addr} {len cap : Nat} {bs : List Int} (h : Tx w B a len cap bs) (hb : Past c w w') (hc : c < B) : Tx w' B a len cap bs := by
  rcases h.2 with h2 | ⟨g, rfl, hB, hg, hl, hcs⟩
  · obtain ⟨rfl, rfl, rfl⟩ := h2
    obtain ⟨l1, l2, l3, _⟩ := h.1
    exact ⟨⟨l1, l2, l3, .inl rfl⟩, .inl ⟨rfl, rfl, rfl⟩⟩
  · have ec : ∀ j, w'.cell? ⟨g, j, none⟩ = w.cell? ⟨g, j, none⟩ := fun j => hb.cell (p := ⟨g, j, none⟩) hg (by show g ≠ c; omega)
    have ef : ∀ j, w'.frozen? ⟨g, j, none⟩ = w.frozen? ⟨g, j, none⟩ := fun j => hb.frozen (p := ⟨g, j, none⟩) hg (by show g ≠ c; omega)
    obtain ⟨l1, l2, l3, l4⟩ := h.1
    refine ⟨⟨l1, l2, l3, ?_⟩, .inr ⟨g, rfl, hB, Nat.lt_of_lt_of_le hg hb.size, hl, fun j hj => ?_⟩⟩
    · rcases l4 with l4 | ⟨b, off, ha, hlt, hcc⟩
      · exact .inl l4
      · cases ha
        exact .inr ⟨g, 0, rfl, Nat.lt_of_lt_of_le hg hb.size, fun i hi => (ec (0 + i)).trans (hcc i hi)⟩
    · rw [ec j, ef j]
      exact hcs j hj
theorem Tx.mono {w : World} {B B' : Nat} {a : Option Addr} {len cap : Nat} {bs : List Int} (h : Tx w B a len cap bs) (hB : B' ≤ B) : Tx w B' a len cap bs := by
  refine ⟨h.1, ?_⟩
  rcases h.2 with h2 | ⟨g, ha, hg, hr⟩
  · exact .inl h2
  · exact .inr ⟨g, ha, Nat.le_trans hB hg, hr⟩
theorem Tx.nil (w : World) (B : Nat) : Tx w B none 0 0 [] := ⟨⟨rfl, by omega, by simp, .inl rfl⟩, .inl ⟨rfl, rfl, rfl⟩⟩

def numsOf (s : ByteArray) : List Int := s.data.toList.map (fun b => (b.toNat : Int))
theorem Tx.conv (w : World) (s : ByteArray) (e : TypeId) (hs : s.size ≤ 1048576) : Tx (Lib.bytesWorld w e s) w.heap.size (some ⟨w.heap.size, 0, none⟩) s.size (grownCap w s.size 0 e) (numsOf s) := by
  have hge := grownCap_ge w s.size 0 e
  refine ⟨⟨by simp [numsOf], hs, fun i => ?_, .inr ⟨w.heap.size, 0, rfl, by rw [Lib.bytesWorld_size]; omega, fun i hi => ?_⟩⟩, .inr ⟨w.heap.size, rfl, Nat.le_refl _, by rw [Lib.bytesWorld_size]; omega, hge, fun j hj => ?_⟩⟩
  · by_cases h : i < s.data.toList.length
    · have hb := (s.data.toList[i]).toNat_lt
      simp only [numsOf, List.getElem?_map, List.getElem?_eq_getElem h, Option.map_some, Option.getD_some]
      omega
    · simp only [numsOf, List.getElem?_map, List.getElem?_eq_none (Nat.le_of_not_lt h), Option.map_none, Option.getD_none]
      omega
  · rw [Nat.zero_add, Lib.bytesWorld_cell w e s i hi]
    have h : i < s.data.toList.length := by simpa using hi
    simp only [numsOf, List.getElem?_map, List.getElem?_eq_getElem h, Option.map_some, Option.getD_some, List.getD_eq_getElem?_getD]
  · have hsz : (Lib.bytesCells w e s).size = grownCap w s.size 0 e := by
      simp [Lib.bytesCells]
      omega
    refine ⟨?_, ?_⟩
    · have hj' : j < (Lib.bytesCells w e s).size := by omega
      simp only [World.cell?, Lib.bytesWorld_at_new]
      by_cases hjs : j < s.size
      · exact ⟨(s.data[j]'hjs).toNat, by simp [Lib.bytesCells, Array.getElem?_append, hjs]⟩
      · refine ⟨0, ?_⟩
        have h1 : ¬ j < (s.data.map fun b => Value.int .u8 b.toNat).size := by simpa using hjs
        have h2 : j - (s.data.map fun b => Value.int .u8 b.toNat).size < grownCap w s.size 0 e - s.size := by simp; omega
        rw [Lib.bytesCells, Array.getElem?_append, if_neg h1, Array.getElem?_replicate, if_pos h2]
        rfl
    · simp only [World.frozen?, Lib.bytesWorld_at_new, hsz]
      simp
      omega
theorem bytesWorld_below (w : World) (e : TypeId) (s : ByteArray) : Below w.heap.size w (Lib.bytesWorld w e s) := by
  refine ⟨?_, ?_, ?_, by rw [Lib.bytesWorld_size]; omega, fun b hb => Lib.bytesWorld_at_old w e s b hb⟩ <;> rfl

/-- What a draw of a term answers. -/
def TermRes (B : Nat) (e : Ending) (w' : World) : Prop := ∃ (k n s : Int) (a : Option Addr) (len cap : Nat) (bs : List Int), e = .returned (.agg #[.int .i64 k, .slice a len cap, .int .i64 n, .int .i64 s]) ∧ (-9223372036854775808 ≤ n ∧ n ≤ 9223372036854775807) ∧ (-9223372036854775808 ≤ s ∧ s ≤ 9223372036854775807) ∧ len ≤ 100 ∧ Tx w' B a len cap bs

theorem l1name_any (s : ByteArray) (w : World) (hs : s.size ≤ 100) :
    Calls Try.prog 45 #[.string s] w fun e w' => TermRes w.heap.size e w' ∧ Below w.heap.size w w' := by
  have hcv := fun w => Lib.run_convert_string_bytes (P := Try.prog) w 9 22 5 s Try.underlying9 Try.underlying22 Try.underlying5
  have hW : ∀ T, Own4 (w.alloc (.cells #[.int .i64 0, .slice none 0 0, .int .i64 0, .int .i64 0] T)) w.heap.size (.int .i64 0) (.slice none 0 0) (.int .i64 0) (.int .i64 0) := fun T => Own4.at w _ _ _ _ _ T rfl
  have hb1 := bytesWorld_below (w.alloc (.cells #[.int .i64 0, .slice none 0 0, .int .i64 0, .int .i64 0] 24)) 5 s
  have hT := Tx.conv (w.alloc (.cells #[.int .i64 0, .slice none 0 0, .int .i64 0, .int .i64 0] 24)) s 5 (by omega)
  have hO := (hW 24).below hb1
  clear hW
  obtain ⟨⟨o0, o1, o2, o3, o4⟩, f0, f1, f2, f3⟩ := id hO
  have HT : Hid (Tx (Lib.bytesWorld (w.alloc (.cells #[.int .i64 0, .slice none 0 0, .int .i64 0, .int .i64 0] 24)) 5 s) (w.alloc (.cells #[.int .i64 0, .slice none 0 0, .int .i64 0, .int .i64 0] 24)).heap.size (some ⟨(w.alloc (.cells #[.int .i64 0, .slice none 0 0, .int .i64 0, .int .i64 0] 24)).heap.size, 0, none⟩) s.size (grownCap (w.alloc (.cells #[.int .i64 0, .slice none 0 0, .int .i64 0, .int .i64 0] 24)) s.size 0 5) (numsOf s)) := hT
  have HB : Hid (Below w.heap.size w (Lib.bytesWorld (w.alloc (.cells #[.int .i64 0, .slice none 0 0, .int .i64 0, .int .i64 0] 24)) 5 s)) := bl_trans (bl_a _) hb1
  clear hT hb1 hO
  go_enter Try.func45, Try.ntmps45
  go_wp2
  refine bodyPost_ret (v := .agg #[.int .i64 0, .slice (some ⟨w.heap.size + 1, 0, none⟩) s.size (grownCap (w.alloc (.cells #[.int .i64 0, .slice none 0 0, .int .i64 0, .int .i64 0] 24)) s.size 0 5), .int .i64 0, .int .i64 0]) (by simp [results, Try.results45, go_sem, *]) rfl ⟨⟨0, 0, 0, _, _, _, numsOf s, rfl, by omega, by omega, hs, ?_⟩, ?_⟩
  · have hP := Past.set (Past.set (Past.set (Past.set (Past.refl w.heap.size (Lib.bytesWorld (w.alloc (.cells #[.int .i64 0, .slice none 0 0, .int .i64 0, .int .i64 0] 24)) 5 s)) 0 (.int .i64 0)) 1 (.slice (some ⟨w.heap.size + 1, 0, none⟩) s.size (grownCap (w.alloc (.cells #[.int .i64 0, .slice none 0 0, .int .i64 0, .int .i64 0] 24)) s.size 0 5))) 2 (.int .i64 0)) 3 (.int .i64 0)
    have := (HT.out.past hP (by simp)).mono (B' := w.heap.size) (by simp)
    simpa using this
  · exact bl_set (bl_set (bl_set (bl_set HB.out (Nat.le_refl _) _) (Nat.le_refl _) _) (Nat.le_refl _) _) (Nat.le_refl _) _
theorem l1int_any (n : Int) (w : World) (h : -9223372036854775808 ≤ n ∧ n ≤ 9223372036854775807) :
    Calls Try.prog 46 #[.int .i64 n] w fun e w' => TermRes w.heap.size e w' ∧ Below w.heap.size w w' := by
  go_enter Try.func46, Try.ntmps46
  go_wp2
  refine bodyPost_ret (v := .agg #[.int .i64 3, .slice none 0 0, .int .i64 n, .int .i64 0]) (by simp [results, Try.results46, go_sem]) rfl ⟨⟨3, n, 0, none, 0, 0, [], rfl, h, by omega, by omega, Tx.nil _ _⟩, bl_a _⟩
theorem Own4.past {w w' : World} {g b : Nat} {v0 v1 v2 v3 : Value} (h : Own4 w b v0 v1 v2 v3) (hb : Past g w w') (hn : b ≠ g) : Own4 w' b v0 v1 v2 v3 := by
  obtain ⟨⟨hl, h0, h1, h2, h3⟩, f0, f1, f2, f3⟩ := h
  exact ⟨⟨Nat.lt_of_lt_of_le hl hb.size, (hb.cell (p := ⟨b, 0, none⟩) hl hn).trans h0, (hb.cell (p := ⟨b, 1, none⟩) hl hn).trans h1, (hb.cell (p := ⟨b, 2, none⟩) hl hn).trans h2, (hb.cell (p := ⟨b, 3, none⟩) hl hn).trans h3⟩,
    (hb.frozen (p := ⟨b, 0, none⟩) hl hn).trans f0, (hb.frozen (p := ⟨b, 1, none⟩) hl hn).trans f1, (hb.frozen (p := ⟨b, 2, none⟩) hl hn).trans f2, (hb.frozen (p := ⟨b, 3, none⟩) hl hn).trans f3⟩
end Go.Proofs.Ytjhobhkdncdnaaa
