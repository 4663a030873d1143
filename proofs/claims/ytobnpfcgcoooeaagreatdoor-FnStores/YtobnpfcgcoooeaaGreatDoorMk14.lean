/- Texts put together: ShwA ShwB ShwC ShwF ShwG StqH StsB -/
import Derived.Test.YtobnpfcgcoooeaaGreatDoorMk02
import Derived.Deep.AppendLies
import Derived.ArgAppend
import Derived.Lib.SmallJoins
import Derived.Test.YtobnpfcgcoooeaaGreatDoorMk04
import Derived.Test.YtobnpfcgcoooeaaGreatDoorMk07
import Derived.Test.YtobnpfcgcoooeaaGreatDoorMk10
/- ShwA -/
namespace Go.Proofs.YtobnpfcgcoooeaaGreatDoor
open Go.RowKit Go.Deep
set_option maxRecDepth 100000

/-- The digits of n, as bytes, at most f and one of them. -/
def digF : Nat → Nat → List Int
  | 0, n => [48 + (n : Int) % 10]
  | f + 1, n => if n < 10 then [48 + (n : Int)] else digF f (n / 10) ++ [48 + (n : Int) % 10]
/-- The digits of n, as bytes. -/
def digitsL (n : Nat) : List Int := digF n n
theorem digF_small {n : Nat} (h : n < 10) : ∀ f, digF f n = [48 + (n : Int)]
  | 0 => by
    have : (n : Int) % 10 = n := by omega
    simp [digF, this]
  | f + 1 => by simp [digF, h]
theorem digF_like : ∀ (f g n : Nat), n ≤ f → n ≤ g → digF f n = digF g n
  | 0, g, n, h, _ => by rw [digF_small (by omega), digF_small (by omega)]
  | f + 1, 0, n, _, h => by rw [digF_small (by omega), digF_small (by omega)]
  | f + 1, g + 1, n, h1, h2 => by
    by_cases h : n < 10
    · rw [digF_small h, digF_small h]
    · simp only [digF, h, if_false]
      rw [digF_like f g (n / 10) (by omega) (by omega)]
theorem digitsL_small {n : Nat} (h : n < 10) : digitsL n = [48 + (n : Int)] := digF_small h n
theorem digitsL_step {n : Nat} (h : ¬ n < 10) : digitsL n = digitsL (n / 10) ++ [48 + (n : Int) % 10] := by
  obtain ⟨m, rfl⟩ : ∃ m, n = m + 1 := ⟨n - 1, by omega⟩
  unfold digitsL
  rw [digF_like ((m + 1) / 10) m ((m + 1) / 10) (by omega) (by omega)]
  simp only [digF, h, if_false]
theorem digitsL_len (k : Nat) : ∀ n : Nat, n < 10 ^ (k + 1) → (digitsL n).length ≤ k + 1 := by
  induction k with
  | zero => intro n h; rw [digitsL_small (by omega)]; simp
  | succ k ih =>
    intro n h
    by_cases h0 : n < 10
    · rw [digitsL_small h0]; simp
    · rw [digitsL_step h0]
      have := ih (n / 10) (by rw [Nat.pow_succ] at h; omega)
      simp
      omega

/-- A row of bytes of the call's own, in block g, that may grow. -/
def Row8 (w : World) (B g n cap : Nat) (bs : List Int) : Prop := w.ownsRow B 5 1 (.slice (some ⟨g, 0, none⟩) n cap) n (bs.map (Value.int .u8)) ∧ g < w.heap.size
/-- A row of bytes that is new. -/
theorem Row8.new (w : World) (x : Int) : Row8 (w.alloc (.cells #[.int .u8 x] 5)) w.heap.size w.heap.size 1 1 [x] := by
  refine ⟨⟨rfl, .inr ⟨w.heap.size, 1, #[.int .u8 x], rfl, Nat.le_refl _, by simp [World.alloc, -World.alloc_eq], by omega, by unfold maxLen; omega, rfl, rfl⟩⟩, by simp⟩
theorem Row8.below {w w' : World} {B g n cap : Nat} {bs : List Int} (h : Row8 w B g n cap bs) (hb : Below w.heap.size w w') : Row8 w' B g n cap bs := by
  obtain ⟨⟨h1, h2⟩, hl⟩ := h
  refine ⟨⟨h1, ?_⟩, Nat.lt_of_lt_of_le hl hb.size⟩
  rcases h2 with ⟨h2, _⟩ | ⟨g', cap', cur, hv, hB, hh, r⟩
  · cases h2
  · refine .inr ⟨g', cap', cur, hv, hB, ?_, r⟩
    cases hv
    rw [hb.block g hl]
    exact hh
theorem Row8.mono {w : World} {B B' g n cap : Nat} {bs : List Int} (h : Row8 w B g n cap bs) (hB : B' ≤ B) : Row8 w B' g n cap bs := by
  obtain ⟨⟨h1, h2⟩, hl⟩ := h
  refine ⟨⟨h1, ?_⟩, hl⟩
  rcases h2 with ⟨h2, _⟩ | ⟨g', cap', cur, hv, hb, r⟩
  · cases h2
  · exact .inr ⟨g', cap', cur, hv, Nat.le_trans hB hb, r⟩
/-- What growing leaves of what was there. -/
theorem grown_below {w w' : World} {B g : Nat} (h : w.grownBy w' (some g)) (hB : B ≤ g) (hw : B ≤ w.heap.size) : Below B w w' :=
  ⟨h.os, h.tape, h.output, h.size, fun b hb => h.block b (by omega) (by intro e; cases e; omega)⟩

/-- What digits answer. -/
def DigRes (w : World) (bs : List Int) (e : Ending) (w' : World) : Prop := ∃ g cap, e = .returned (.slice (some ⟨g, 0, none⟩) bs.length cap) ∧ Row8 w' w.heap.size g bs.length cap bs ∧ Below w.heap.size w w'
end Go.Proofs.YtobnpfcgcoooeaaGreatDoor

/- ShwB -/
namespace Go.Proofs.YtobnpfcgcoooeaaGreatDoor
open Go.RowKit Go.Deep
set_option maxRecDepth 100000

theorem one_news (w : World) (x : Int) : ∀ j u, [Value.int .u8 x][j]? = some u → (w.alloc (.cells #[.int .u8 x] 5)).cell? ((⟨w.heap.size, 0, none⟩ : Addr).add j) = some u := by
  intro j u hj
  have hj0 : j = 0 := by
    cases j with
    | zero => rfl
    | succ j => simp at hj
  subst hj0
  simp at hj
  subst hj
  simp [Addr.add, go_sem]
theorem Row8.ge {w : World} {B g n cap : Nat} {bs : List Int} (h : Row8 w B g n cap bs) : B ≤ g := by
  rcases h.1.2 with ⟨h, _⟩ | ⟨g', cap', cur, hv, hB, _⟩
  · cases h
  · cases hv; exact hB
/-- A row that has grown. -/
theorem Row8.grown {w3 : World} {B g n cap : Nat} {us bs : List Int} {vs : List Value} (h : w3.ownsRow B 5 1 (.slice (some ⟨g, 0, none⟩) n cap) n (us.map (Value.int .u8) ++ vs)) (hv : vs = bs.map (Value.int .u8)) (hl : g < w3.heap.size) : Row8 w3 B g n cap (us ++ bs) := by
  subst hv
  rw [← List.map_append] at h
  exact ⟨h, hl⟩

theorem Row8.news {w : World} {B g n cap : Nat} {bs : List Int} (h : Row8 w B g n cap bs) : ∀ j u, (bs.map (Value.int .u8))[j]? = some u → w.cell? ((⟨g, 0, none⟩ : Addr).add j) = some u := by
  intro j u hj
  obtain ⟨⟨h1, h2⟩, hl⟩ := h
  rcases h2 with ⟨h2, _⟩ | ⟨g', cap', cur, hv, hB, hh, hle, _, hsz, htk⟩
  · cases h2
  · cases hv
    have ea : (⟨g, 0, none⟩ : Addr).add j = ⟨g, 0 + j, none⟩ := by
      by_cases h0 : j = 0 <;> simp [Addr.add, h0]
    rw [ea, ← hj, ← htk, List.getElem?_take]
    have hjl : j < bs.length := by
      apply Classical.byContradiction
      intro hn
      rw [List.getElem?_eq_none (by simp; omega)] at hj
      cases hj
    have hbl : bs.length = n := by simpa using h1
    rw [if_pos (by omega)]
    simp [World.cell?, hh]
theorem digitsL_pos (n : Nat) : 1 ≤ (digitsL n).length := by
  by_cases h : n < 10
  · rw [digitsL_small h]; simp
  · rw [digitsL_step h]; simp

end Go.Proofs.YtobnpfcgcoooeaaGreatDoor

/- ShwC -/
namespace Go.Proofs.YtobnpfcgcoooeaaGreatDoor
open Go.RowKit Go.Deep
set_option maxRecDepth 100000

/-- A text's bytes as they are written. -/
def esc (bs : List Int) : List Int := bs.flatMap fun b => if b = 34 ∨ b = 92 then [92, b] else [b]
theorem esc_snoc (bs : List Int) (b : Int) : esc (bs ++ [b]) = esc bs ++ (if b = 34 ∨ b = 92 then [92, b] else [b]) := by simp [esc]
theorem esc_len (bs : List Int) : (esc bs).length ≤ 2 * bs.length := by
  induction bs with
  | nil => simp [esc]
  | cons b bs ih =>
    have : esc (b :: bs) = (if b = 34 ∨ b = 92 then [92, b] else [b]) ++ esc bs := rfl
    rw [this]
    split <;> simp <;> omega
theorem take_snoc (bs : List Int) (k : Nat) (h : k < bs.length) : bs.take (k + 1) = bs.take k ++ [bs[k]?.getD 0] := by
  rw [List.take_add_one, List.getElem?_eq_getElem h]
  rfl

set_option maxHeartbeats 1000000 in
theorem quoted_any (a : Option Addr) (len cap : Nat) (bs : List Int) (w : World) (hB : Bs w a len bs) :
    Calls Tryz.prog 60 #[.slice a len cap] w fun e w' => DigRes w (34 :: (esc bs ++ [34])) e w' := by
  obtain ⟨i0, hi0, hzz⟩ := Option.map_eq_some_iff.1 Tryz.info5
  simp only [Prod.mk.injEq] at hzz
  obtain ⟨hi2, hi1, hi3⟩ := hzz
  have hlen := hB.1
  have h20 := hB.2.1
  have HR0 : Hid (Row8 (w.alloc (.cells #[.int .u8 34] 5)) w.heap.size w.heap.size 1 1 [34]) := Row8.new w 34
  have HBs : Hid (Bs w a len bs) := hB
  have HL : Hid (bs.length = len) := hlen
  clear hB hlen
  go_enter Tryz.func60, Tryz.ntmps60
  go_wp2_with fail
  go_loopw [3, 9] (fun x i wr => ∃ (k g n cap' : Nat), k ≤ len ∧ i = .int .i64 k ∧ x = .slice (some ⟨g, 0, none⟩) n cap' ∧ n ≤ 1 + 2 * k ∧ Hid (Row8 wr w.heap.size g n cap' (34 :: esc (bs.take k))) ∧ Hid (Below w.heap.size w wr))
    (fun _ i _ => len - (intOf i).toNat)
  case atStart => exact ⟨0, w.heap.size, 1, 1, Nat.zero_le _, rfl, rfl, by omega, HR0, bl_a _⟩
  case round =>
    obtain ⟨k, g, n, cap', hk, rfl, rfl, hn, HR, HB⟩ := hrel
    clear HR0
    by_cases hlk : k < len
    · obtain ⟨b, off, rfl, hbl, hc⟩ := HBs.out.2.2.2.resolve_left (by omega)
      have hx := (HB.out.cell (p := ⟨b, off + k, none⟩) hbl).trans (hc k hlk)
      have hv := HBs.out.2.2.1 k
      have HE : Hid (esc (bs.take (k + 1)) = esc (bs.take k) ++ (if bs[k]?.getD 0 = 34 ∨ bs[k]?.getD 0 = 92 then [92, bs[k]?.getD 0] else [bs[k]?.getD 0])) := by
        show _ = _
        rw [take_snoc bs k (by have := HL.out; omega), esc_snoc]
      clear hc
      generalize bs[k]?.getD 0 = v at *
      have HR1 : ∀ y : Int, Hid (Row8 (wr.alloc (.cells #[.int .u8 y] 5)) w.heap.size g n cap' (34 :: esc (bs.take k))) := fun y => HR.out.below (bl_a _)
      have HB1 : ∀ y : Int, Hid (Below w.heap.size w (wr.alloc (.cells #[.int .u8 y] 5))) := fun y => bl_alloc HB.out _
      by_cases hq : v = 34 ∨ v = 92
      · have HE' : Hid (esc (bs.take (k + 1)) = esc (bs.take k) ++ [92, v]) := by show _ = _; rw [HE.out, if_pos hq]
        clear HE
        have hor : ((v == 34) || (v == 92)) = true := by simpa using hq
        cases h34 : (v == 34)
        · have h92 : (v == 92) = true := by simpa [h34] using hor
          clear hq hor
          go_wp2_with (first
            | (refine wpList_append_lies _ rfl (.tmp 19) (.tmp 20) 22 rfl w.heap.size 5 i0 (.int .u8 0) 1 1 Tryz.underlying22 hi0 hi2 hi1 hi3 rfl (by omega) (.slice (some ⟨g, 0, none⟩) n cap') n ((34 :: esc (bs.take k)).map (Value.int .u8)) rfl (HR1 92).out.1 ⟨wr.heap.size, 0, none⟩ 1 _ [.int .u8 92] rfl rfl (one_news wr 92) (by simp [Value.oneCell']) (by omega) (by unfold maxLen; omega) (by omega) (HB1 92).out.size _ rfl ?_; intro g3 cap3 w3 hown3 hgr3 hgg3 hlt3; have hr3 : Row8 w3 w.heap.size g3 (n + 1) cap3 ((34 :: esc (bs.take k)) ++ [92]) := Row8.grown (us := 34 :: esc (bs.take k)) (bs := [92]) hown3 rfl hlt3; have hb3 : Below w.heap.size w w3 := (HB1 92).out.trans (grown_below (g := g) hgr3 HR.out.ge (HB1 92).out.size); clear hown3 hgr3 hgg3; have HR3 : Hid (Row8 (w3.alloc (.cells #[.int .u8 v] 5)) w.heap.size g3 (n + 1) cap3 ((34 :: esc (bs.take k)) ++ [92])) := hr3.below (bl_a _); have HB3 : Hid (Below w.heap.size w (w3.alloc (.cells #[.int .u8 v] 5))) := bl_alloc hb3 _; clear hr3 hb3)
            | (refine wpList_append_lies _ rfl (.tmp 22) (.tmp 24) 22 rfl w.heap.size 5 i0 (.int .u8 0) 1 1 Tryz.underlying22 hi0 hi2 hi1 hi3 rfl (by omega) (.slice (some ⟨g3, 0, none⟩) (n + 1) cap3) (n + 1) (((34 :: esc (bs.take k)) ++ [92]).map (Value.int .u8)) rfl HR3.out.1 ⟨w3.heap.size, 0, none⟩ 1 _ [.int .u8 v] rfl rfl (one_news w3 v) (by simp [Value.oneCell']) (by omega) (by unfold maxLen; omega) (by omega) HB3.out.size _ rfl ?_; intro g4 cap4 w4 hown4 hgr4 hgg4 hlt4; have HR4 : Hid (Row8 w4 w.heap.size g4 (n + 1 + 1) cap4 (((34 :: esc (bs.take k)) ++ [92]) ++ [v])) := Row8.grown (us := (34 :: esc (bs.take k)) ++ [92]) (bs := [v]) hown4 rfl hlt4; have HB4 : Hid (Below w.heap.size w w4) := HB3.out.trans (grown_below (g := g3) hgr4 HR3.out.ge HB3.out.size); clear hown4 hgr4 hgg4))
          go_roundw
          case rel =>
            refine ⟨k + 1, g4, n + 1 + 1, cap4, by omega, by go_num, rfl, by omega, ?_, HB4⟩
            have h := HR4.out
            show Row8 _ _ _ _ _ _
            rw [HE'.out]
            simpa using h
          case measure => simp [intOf]; omega
        · clear hq hor
          go_wp2_with (first
            | (refine wpList_append_lies _ rfl (.tmp 19) (.tmp 20) 22 rfl w.heap.size 5 i0 (.int .u8 0) 1 1 Tryz.underlying22 hi0 hi2 hi1 hi3 rfl (by omega) (.slice (some ⟨g, 0, none⟩) n cap') n ((34 :: esc (bs.take k)).map (Value.int .u8)) rfl (HR1 92).out.1 ⟨wr.heap.size, 0, none⟩ 1 _ [.int .u8 92] rfl rfl (one_news wr 92) (by simp [Value.oneCell']) (by omega) (by unfold maxLen; omega) (by omega) (HB1 92).out.size _ rfl ?_; intro g3 cap3 w3 hown3 hgr3 hgg3 hlt3; have hr3 : Row8 w3 w.heap.size g3 (n + 1) cap3 ((34 :: esc (bs.take k)) ++ [92]) := Row8.grown (us := 34 :: esc (bs.take k)) (bs := [92]) hown3 rfl hlt3; have hb3 : Below w.heap.size w w3 := (HB1 92).out.trans (grown_below (g := g) hgr3 HR.out.ge (HB1 92).out.size); clear hown3 hgr3 hgg3; have HR3 : Hid (Row8 (w3.alloc (.cells #[.int .u8 v] 5)) w.heap.size g3 (n + 1) cap3 ((34 :: esc (bs.take k)) ++ [92])) := hr3.below (bl_a _); have HB3 : Hid (Below w.heap.size w (w3.alloc (.cells #[.int .u8 v] 5))) := bl_alloc hb3 _; clear hr3 hb3)
            | (refine wpList_append_lies _ rfl (.tmp 22) (.tmp 24) 22 rfl w.heap.size 5 i0 (.int .u8 0) 1 1 Tryz.underlying22 hi0 hi2 hi1 hi3 rfl (by omega) (.slice (some ⟨g3, 0, none⟩) (n + 1) cap3) (n + 1) (((34 :: esc (bs.take k)) ++ [92]).map (Value.int .u8)) rfl HR3.out.1 ⟨w3.heap.size, 0, none⟩ 1 _ [.int .u8 v] rfl rfl (one_news w3 v) (by simp [Value.oneCell']) (by omega) (by unfold maxLen; omega) (by omega) HB3.out.size _ rfl ?_; intro g4 cap4 w4 hown4 hgr4 hgg4 hlt4; have HR4 : Hid (Row8 w4 w.heap.size g4 (n + 1 + 1) cap4 (((34 :: esc (bs.take k)) ++ [92]) ++ [v])) := Row8.grown (us := (34 :: esc (bs.take k)) ++ [92]) (bs := [v]) hown4 rfl hlt4; have HB4 : Hid (Below w.heap.size w w4) := HB3.out.trans (grown_below (g := g3) hgr4 HR3.out.ge HB3.out.size); clear hown4 hgr4 hgg4))
          go_roundw
          case rel =>
            refine ⟨k + 1, g4, n + 1 + 1, cap4, by omega, by go_num, rfl, by omega, ?_, HB4⟩
            have h := HR4.out
            show Row8 _ _ _ _ _ _
            rw [HE'.out]
            simpa using h
          case measure => simp [intOf]; omega
      · have HE' : Hid (esc (bs.take (k + 1)) = esc (bs.take k) ++ [v]) := by show _ = _; rw [HE.out, if_neg hq]
        have h34 : (v == 34) = false := by simp; omega
        have h92 : (v == 92) = false := by simp; omega
        clear HE hq
        go_wp2_with (refine wpList_append_lies _ rfl (.tmp 22) (.tmp 24) 22 rfl w.heap.size 5 i0 (.int .u8 0) 1 1 Tryz.underlying22 hi0 hi2 hi1 hi3 rfl (by omega) (.slice (some ⟨g, 0, none⟩) n cap') n ((34 :: esc (bs.take k)).map (Value.int .u8)) rfl (HR1 v).out.1 ⟨wr.heap.size, 0, none⟩ 1 _ [.int .u8 v] rfl rfl (one_news wr v) (by simp [Value.oneCell']) (by omega) (by unfold maxLen; omega) (by omega) (HB1 v).out.size _ rfl ?_; intro g4 cap4 w4 hown4 hgr4 hgg4 hlt4; have HR4 : Hid (Row8 w4 w.heap.size g4 (n + 1) cap4 ((34 :: esc (bs.take k)) ++ [v])) := Row8.grown (us := 34 :: esc (bs.take k)) (bs := [v]) hown4 rfl hlt4; have HB4 : Hid (Below w.heap.size w w4) := (HB1 v).out.trans (grown_below (g := g) hgr4 HR.out.ge (HB1 v).out.size); clear hown4 hgr4 hgg4)
        go_roundw
        case rel =>
          refine ⟨k + 1, g4, n + 1, cap4, by omega, by go_num, rfl, by omega, ?_, HB4⟩
          have := HR4.out
          show Row8 _ _ _ _ _ _
          rw [HE'.out]
          exact this
        case measure => simp [intOf]; omega
    · obtain rfl : k = len := by omega
      have HR' : Hid (Row8 wr w.heap.size g n cap' (34 :: esc bs)) := by
        have := HR.out
        rwa [List.take_of_length_le (by have := HL.out; omega)] at this
      have HR1 : Hid (Row8 (wr.alloc (.cells #[.int .u8 34] 5)) w.heap.size g n cap' (34 :: esc bs)) := HR'.out.below (bl_a _)
      have HB1 : Hid (Below w.heap.size w (wr.alloc (.cells #[.int .u8 34] 5))) := bl_alloc HB.out _
      have HNL : Hid (n = (34 :: esc bs : List Int).length) := by
        have := HR'.out.1.1
        show _ = _
        simpa using this.symm
      clear HR
      go_wp2_with (refine wpList_append_lies _ rfl (.tmp 27) (.tmp 28) 22 rfl w.heap.size 5 i0 (.int .u8 0) 1 1 Tryz.underlying22 hi0 hi2 hi1 hi3 rfl (by omega) (.slice (some ⟨g, 0, none⟩) n cap') n ((34 :: esc bs).map (Value.int .u8)) rfl HR1.out.1 ⟨wr.heap.size, 0, none⟩ 1 _ [.int .u8 34] rfl rfl (one_news wr 34) (by simp [Value.oneCell']) (by omega) (by unfold maxLen; omega) (by omega) HB1.out.size _ rfl ?_; intro g4 cap4 w4 hown4 hgr4 hgg4 hlt4; have hr4 := Row8.grown (us := 34 :: esc bs) (bs := [34]) hown4 rfl hlt4; have hb4 : Below w.heap.size w w4 := HB1.out.trans (grown_below (g := g) hgr4 HR'.out.ge HB1.out.size); clear hown4 hgr4 hgg4)
      go_ret
      have el : (34 :: (esc bs ++ [34]) : List Int).length = n + 1 := by rw [HNL.out]; simp
      exact ⟨g4, cap4, by rw [el]; rfl, by rw [el]; exact hr4, hb4⟩
end Go.Proofs.YtobnpfcgcoooeaaGreatDoor

/- ShwF -/
namespace Go.Proofs.YtobnpfcgcoooeaaGreatDoor
open Go.RowKit Go.Deep
set_option maxRecDepth 100000

/-- What a number shows as, less its sign. -/
def numL (n : Int) (s : Nat) : List Int :=
  digitsL (n / p10 s).toNat ++ (if s = 0 then [] else 46 :: (List.replicate (s - (digitsL (n % p10 s).toNat).length) 48 ++ digitsL (n % p10 s).toNat))

end Go.Proofs.YtobnpfcgcoooeaaGreatDoor

/- ShwG -/
namespace Go.Proofs.YtobnpfcgcoooeaaGreatDoor
open Go.RowKit Go.Deep
set_option maxRecDepth 100000

theorem Row8.own {w : World} {B g n cap : Nat} {bs : List Int} (h : Row8 w B g n cap bs) : Hid (w.ownsRow B 5 1 (.slice (some ⟨g, 0, none⟩) n cap) n (bs.map (Value.int .u8))) := h.1
theorem Row8.len {w : World} {B g n cap : Nat} {bs : List Int} (h : Row8 w B g n cap bs) : bs.length = n := by simpa using h.1.1
end Go.Proofs.YtobnpfcgcoooeaaGreatDoor

/- StqH -/
namespace Go.Proofs.YtobnpfcgcoooeaaGreatDoor
open Go.RowKit Go.Deep
set_option maxRecDepth 100000

theorem Row8.bs {w : World} {B g n cap : Nat} {bs : List Int} (h : Row8 w B g n cap bs) (hb : Byt bs) (hn : n ≤ 1048576) : Bs w (some ⟨g, 0, none⟩) n bs := by
  have hl := h.len
  refine ⟨hl, hn, hb.get, ?_⟩
  right
  refine ⟨g, 0, rfl, h.2, fun i hi => ?_⟩
  rcases h.1.2 with ⟨hv, _⟩ | ⟨g', c', cur, hv, _, hh, hle, _, hsz, htk⟩
  · cases hv
  · cases hv
    have hi' : i < bs.length := by omega
    have e : (bs.map (Value.int .u8))[i]? = some (.int .u8 (bs[i]?.getD 0)) := by simp [hi']
    rw [← htk, List.getElem?_take, if_pos (by omega)] at e
    rw [Nat.zero_add]
    simp only [World.cell?, hh]
    simpa using e

end Go.Proofs.YtobnpfcgcoooeaaGreatDoor

/- StsB -/
namespace Go.Proofs.YtobnpfcgcoooeaaGreatDoor
open Go.RowKit Go.Deep Go.Sort Go.Lib
set_option maxRecDepth 100000

/-- The base may be an elder world. -/
theorem swk_up {w0 w w' : World} {blk off : Nat} {d0 d d' : Array (Int × Int × Int)} (R : RowK encR 3 w0 blk off d0) (S : SWK encR 3 w0 blk off d w) (h : SWK encR 3 w blk off d' w') (hs : d'.size = d.size) : SWK encR 3 w0 blk off d' w' := by
  obtain ⟨m, os, rfl⟩ := h
  exact S.on R.hblk m d' os hs
theorem rowk_up {w0 w : World} {blk off : Nat} {d0 d : Array (Int × Int × Int)} (R : RowK encR 3 w0 blk off d0) (S : SWK encR 3 w0 blk off d w) (hs : d.size = d0.size) : RowK encR 3 w blk off d := ⟨R.hk, R.h1, S.holds R.hblk R.hH hs, S.lt R.hblk⟩

set_option maxHeartbeats 4000000 in
theorem order2M (o : Nat) (ho : o < 6) (blk off cap a b c s : Nat) (d0 d : Array (Int × Int × Int)) (w0 W : World) (R : RowK encR 3 w0 blk off d0) (hs : d.size = d0.size) (C : CntK encR 3 w0 blk off d c s W) (ha : a < d.size) (hb : b < d.size) (_hsz : d.size < 4611686018427387904) (hss : s < 4611686018427387904) :
    Calls Tryz.prog 138 #[.slice (some ⟨blk, off, none⟩) d.size cap, .int .i64 a, .int .i64 b, .pointer (some ⟨c, 0, none⟩), .func (.func 47) #[.int .i64 o] #[]] W fun e w' =>
      e = .returned (.tuple #[.int .i64 (order2 (ltOf (rcmp o)) d a b s).1, .int .i64 (order2 (ltOf (rcmp o)) d a b s).2.1]) ∧ CntK encR 3 w0 blk off d c (order2 (ltOf (rcmp o)) d a b s).2.2 w' := by
  have mixed : Tryz.prog.follows .mixedOrders = true := by kernel_rfl
  have HCn : Hid (CntK encR 3 w0 blk off d c s W) := C
  obtain ⟨xa, hxa⟩ : ∃ x, d[a]! = x := ⟨_, rfl⟩
  obtain ⟨xb, hxb⟩ : ∃ x, d[b]! = x := ⟨_, rfl⟩
  have hL := fun n os => swk_at3 (C.1.grown n os) R hs a ha
  have hP := fun n os => swk_at3 (C.1.grown n os) R hs b hb
  rw [hxa] at hL
  rw [hxb] at hP
  have l0 := fun n os => (hL n os).1
  have l1 := fun n os => (hL n os).2.1
  have l2 := fun n os => (hL n os).2.2
  have q0 := fun n os => (hP n os).1
  have q1 := fun n os => (hP n os).2.1
  have q2 := fun n os => (hP n os).2.2
  have hcg := fun n os => cmpM o ho xb xa (grow (W.drewN n) os)
  have az : (a : Int) < (d.size : Int) := by omega
  have bz : (b : Int) < (d.size : Int) := by omega
  clear hL hP R C hs
  by_cases hlv : rcmp o xb xa < 0
  · have ho2 : order2 (ltOf (rcmp o)) d a b s = (b, a, s + 1) := by unfold order2; rw [if_pos (by rw [hxa, hxb]; exact decide_eq_true hlv)]
    rw [ho2]
    clear ho2 ho
    go_enter Tryz.func138, Tryz.ntmps138
    go_wp2_with fail
    go_quiet_grown (first | (go_at_call 47; refine Calls.grown_of (hcg _ _)))
    have HC2 : Hid (CntK encR 3 w0 blk off d c s (grow (W.drewN nq) osq)) := HCn.out.grown nq osq
    clear l0 l1 l2 q0 q1 q2 hcg
    generalize grow (W.drewN nq) osq = w2 at HC2 ⊢
    have hcc := HC2.out.2.1
    have hcf := HC2.out.2.2.1
    go_wp2
    simp [bodyPost, results, Tryz.results138, go_sem]
    have := HC2.out.bump (s + 1)
    simpa using this
  · have ho2 : order2 (ltOf (rcmp o)) d a b s = (a, b, s) := by unfold order2; rw [if_neg (by rw [hxa, hxb]; simp [ltOf]; omega)]
    rw [ho2]
    clear ho2 ho
    go_enter Tryz.func138, Tryz.ntmps138
    go_wp2_with fail
    go_quiet_grown (first | (go_at_call 47; refine Calls.grown_of (hcg _ _)))
    go_wp2_with fail
    simp [bodyPost, results, Tryz.results138, go_sem]
    exact HCn.out.grown nq osq

theorem order2_lt (lt : Int × Int × Int → Int × Int × Int → Bool) (d : Array (Int × Int × Int)) (a b s n : Nat) (ha : a < n) (hb : b < n) : (order2 lt d a b s).1 < n ∧ (order2 lt d a b s).2.1 < n ∧ (order2 lt d a b s).2.2 ≤ s + 1 := by
  unfold order2
  split
  · exact ⟨hb, ha, Nat.le_refl _⟩
  · exact ⟨ha, hb, Nat.le_succ _⟩

set_option maxHeartbeats 4000000 in
theorem medianM (o : Nat) (ho : o < 6) (blk off cap a b c' c s : Nat) (d0 d : Array (Int × Int × Int)) (w0 W : World) (R : RowK encR 3 w0 blk off d0) (hs : d.size = d0.size) (C : CntK encR 3 w0 blk off d c s W) (ha : a < d.size) (hb : b < d.size) (hc : c' < d.size) (hsz : d.size < 4611686018427387904) (hss : s + 3 < 4611686018427387904) :
    Calls Tryz.prog 127 #[.slice (some ⟨blk, off, none⟩) d.size cap, .int .i64 a, .int .i64 b, .int .i64 c', .pointer (some ⟨c, 0, none⟩), .func (.func 47) #[.int .i64 o] #[]] W fun e w' =>
      e = .returned (.int .i64 (median (ltOf (rcmp o)) d a b c' s).1) ∧ CntK encR 3 w0 blk off d c (median (ltOf (rcmp o)) d a b c' s).2 w' := by
  have O := fun (a b s : Nat) (W : World) (C : CntK encR 3 w0 blk off d c s W) (ha : a < d.size) (hb : b < d.size) (hss : s < 4611686018427387904) => order2M o ho blk off cap a b c s d0 d w0 W R hs C ha hb hsz hss
  have h1 := order2_lt (ltOf (rcmp o)) d a b s d.size ha hb
  have c1 := O a b s W C ha hb (by omega)
  rw [show median (ltOf (rcmp o)) d a b c' s = (let r1 := order2 (ltOf (rcmp o)) d a b s; let r2 := order2 (ltOf (rcmp o)) d r1.2.1 c' r1.2.2; let r3 := order2 (ltOf (rcmp o)) d r1.1 r2.1 r2.2.2; (r3.2.1, r3.2.2)) from rfl]
  generalize order2 (ltOf (rcmp o)) d a b s = r1 at *
  obtain ⟨x1, y1, s1⟩ := r1
  dsimp only at *
  have h2 := order2_lt (ltOf (rcmp o)) d y1 c' s1 d.size h1.2.1 hc
  have c2 := fun W C => O y1 c' s1 W C h1.2.1 hc (by omega)
  generalize order2 (ltOf (rcmp o)) d y1 c' s1 = r2 at *
  obtain ⟨x2, y2, s2⟩ := r2
  dsimp only at *
  have c3 := fun W C => O x1 x2 s2 W C h1.1 h2.1 (by omega)
  generalize order2 (ltOf (rcmp o)) d x1 x2 s2 = r3 at *
  obtain ⟨x3, y3, s3⟩ := r3
  dsimp only at *
  clear O R C hs
  go_enter Tryz.func127, Tryz.ntmps127
  go_wp2_with fail
  refine c1.mono ?_
  rintro e w1 ⟨rfl, C1⟩
  go_wp2_with fail
  refine (c2 _ C1).mono ?_
  rintro e w2 ⟨rfl, C2⟩
  go_wp2_with fail
  refine (c3 _ C2).mono ?_
  rintro e w3 ⟨rfl, C3⟩
  go_wp2_with fail
  go_ret
  exact ⟨rfl, C3⟩

set_option maxHeartbeats 4000000 in
theorem medAdjM (o : Nat) (ho : o < 6) (blk off cap a c s : Nat) (d0 d : Array (Int × Int × Int)) (w0 W : World) (R : RowK encR 3 w0 blk off d0) (hs : d.size = d0.size) (C : CntK encR 3 w0 blk off d c s W) (ha1 : 1 ≤ a) (ha2 : a + 1 < d.size) (hsz : d.size < 4611686018427387904) (hss : s + 3 < 4611686018427387904) :
    Calls Tryz.prog 126 #[.slice (some ⟨blk, off, none⟩) d.size cap, .int .i64 a, .pointer (some ⟨c, 0, none⟩), .func (.func 47) #[.int .i64 o] #[]] W fun e w' =>
      e = .returned (.int .i64 (medianAdjacent (ltOf (rcmp o)) d a s).1) ∧ CntK encR 3 w0 blk off d c (medianAdjacent (ltOf (rcmp o)) d a s).2 w' := by
  have M := medianM o ho blk off cap (a - 1) a (a + 1) c s d0 d w0 W R hs C (by omega) (by omega) ha2 hsz hss
  unfold medianAdjacent
  obtain ⟨p, rfl⟩ : ∃ p, a = p + 1 := ⟨a - 1, by omega⟩
  simp only [Nat.add_sub_cancel] at M ⊢
  generalize median (ltOf (rcmp o)) d p (p + 1) (p + 1 + 1) s = r at *
  clear R C hs
  have e1 : IntKind.i64.wrap ((p : Int) + 1 + 1) = (p : Int) + 1 + 1 := by rw [IntKind.wrap_i64]; omega
  have e2 : IntKind.i64.wrap (p : Int) = (p : Int) := by rw [IntKind.wrap_i64]; omega
  simp only [Int.natCast_add, Int.cast_ofNat_Int] at M
  go_enter Tryz.func126, Tryz.ntmps126
  go_wp2_with fail
  refine M.mono ?_
  rintro e w1 ⟨rfl, C1⟩
  go_wp2_with fail
  go_ret
  exact ⟨rfl, C1⟩

set_option maxHeartbeats 4000000 in
theorem revM (fv : Value) (blk off cap a b : Nat) (d : Array (Int × Int × Int)) (w : World) (R : RowK encR 3 w blk off d) (hab : a ≤ b) (hb : b ≤ d.size) (hsz : d.size < 4611686018427387904) :
    Calls Tryz.prog 106 #[.slice (some ⟨blk, off, none⟩) d.size cap, .int .i64 a, .int .i64 b, fv] w fun e w' => e = .returned (.tuple #[]) ∧ SWK encR 3 w blk off (reverseRange d a b) w' := by
  have mixed : Tryz.prog.follows .mixedOrders = true := by kernel_rfl
  have HR : Hid (RowK encR 3 w blk off d) := R
  clear R
  go_enter Tryz.func106, Tryz.ntmps106
  go_wp2
  go_loopg [8, 9] (b - a) (fun g1 vi vj wr => ∃ (i j : Nat) (dk : Array (Int × Int × Int)), vi = .int .i64 i ∧ vj = .int .i64 ((j : Int) - 1) ∧ j ≤ d.size ∧ i ≤ d.size ∧ j - i ≤ g1 ∧ dk.size = d.size ∧ Hid (SWK encR 3 w blk off dk wr) ∧ Hid (reverseLoop i (j - 1) dk = reverseRange d a b))
  case atStart => exact ⟨a, b, d, rfl, by go_num, hb, by omega, Nat.le_refl _, rfl, SWK.start HR.out.hH, rfl⟩
  case round =>
    obtain ⟨i, j, dk, rfl, rfl, hj, hi, hg1, hsk, HS, HO⟩ := hrel
    by_cases hlt : i < j - 1
    · obtain ⟨jp, rfl⟩ : ∃ jp, j = jp + 2 := ⟨j - 2, by omega⟩
      have ej : (((jp + 2 : Nat) : Int) - 1) = ((jp + 1 : Nat) : Int) := by omega
      rw [ej]
      have hltz : (i : Int) < ((jp + 1 : Nat) : Int) := by omega
      have iz : (i : Int) < (d.size : Int) := by omega
      have jz : ((jp + 1 : Nat) : Int) < (d.size : Int) := by omega
      obtain ⟨xi, hxi⟩ : ∃ x, dk[i]! = x := ⟨_, rfl⟩
      obtain ⟨xj, hxj⟩ : ∃ x, dk[jp + 1]! = x := ⟨_, rfl⟩
      obtain ⟨l0, l1, l2⟩ := hxi ▸ swk_at3 HS.out HR.out hsk i (by omega)
      obtain ⟨q0, q1, q2⟩ := hxj ▸ swk_at3 HS.out HR.out hsk (jp + 1) (by omega)
      obtain ⟨z0, z1, z2⟩ := swk_fr3 HS.out HR.out hsk i (by omega)
      obtain ⟨y0, y1, y2⟩ := swk_fr3 HS.out HR.out hsk (jp + 1) (by omega)
      go_wp2_with fail
      go_big_region_o
      all_goals go_wp2
      go_roundg (jp - i)
      case measure => omega
      case rel =>
        refine ⟨i + 1, jp + 1, swp dk i (jp + 1), by go_num, by go_num, by omega, by omega, by omega, by rw [size_swp]; exact hsk, swk_swp3 HS.out HR.out i (jp + 1) (by omega) (by omega) hxi hxj, (show Hid _ from ?_)⟩
        show _ = _
        rw [← HO.out, reverseLoop.eq_1 i, if_pos hlt]
        rfl
    · have hltz : ¬ (i : Int) < (j : Int) - 1 := by omega
      go_wp2
      go_end0
      refine ⟨rfl, ?_⟩
      have := HO.out
      rw [reverseLoop.eq_1, if_neg hlt] at this
      rw [← this]
      exact HS.out
end Go.Proofs.YtobnpfcgcoooeaaGreatDoor
