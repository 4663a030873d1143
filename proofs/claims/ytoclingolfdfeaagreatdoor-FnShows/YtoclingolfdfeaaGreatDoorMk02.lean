/- Texts put together: ShwC CmpA ShwF ShwG TxtC MrkA OwnA ShwH CmpB CmpC CmpD -/
import Derived.Test.YtoclingolfdfeaaGreatDoorMk01
import Derived.ArgAppend
import Derived.Lib.SmallJoins
import Derived.Lib.ConvBytes
import Derived.Laws.BytesArg
import Derived.Lib.Bytealg
import Derived.Lib.Bytes
import Derived.Laws.Externs
import Derived.Deep.RegionHeld3
/- ShwC -/
namespace Go.Proofs.YtoclingolfdfeaaGreatDoor
open Go.RowKit Go.Deep
set_option maxRecDepth 100000

/-- A text's bytes as they are written. -/
def esc (bs : List Int) : List Int := bs.flatMap fun b => if b = 34 ∨ b = 92 then [92, b] else [b]
theorem esc_snoc (bs : List Int) (b : Int) : esc (bs ++ [b]) = esc bs ++ (if b = 34 ∨ b = 92 then [92, b] else [b]) := by simp [esc]
theorem esc_len (bs : List Int) : (esc bs).length ≤ 2 * bs.length := by
  induction bs with
  | nil => simp [esc]
  | cons b bs ih =>
    have : esc (b :: bs) = (if b = 34 ∨ b = 92 then [92, b] else [b]) ++ esc bs := rfl
    rw [this]
    split <;> simp <;> omega
theorem take_snoc (bs : List Int) (k : Nat) (h : k < bs.length) : bs.take (k + 1) = bs.take k ++ [bs[k]?.getD 0] := by
  rw [List.take_add_one, List.getElem?_eq_getElem h]
  rfl

set_option maxHeartbeats 1000000 in
theorem quoted_any (a : Option Addr) (len cap : Nat) (bs : List Int) (w : World) (hB : Bs w a len bs) :
    Calls Tryz.prog 30 #[.slice a len cap] w fun e w' => DigRes w (34 :: (esc bs ++ [34])) e w' := by
  obtain ⟨i0, hi0, hzz⟩ := Option.map_eq_some_iff.1 Tryz.info5
  simp only [Prod.mk.injEq] at hzz
  obtain ⟨hi2, hi1, hi3⟩ := hzz
  have hlen := hB.1
  have h20 := hB.2.1
  have HR0 : Hid (Row8 (w.alloc (.cells #[.int .u8 34] 5)) w.heap.size w.heap.size 1 1 [34]) := Row8.new w 34
  have HBs : Hid (Bs w a len bs) := hB
  have HL : Hid (bs.length = len) := hlen
  clear hB hlen
  go_enter Tryz.func30, Tryz.ntmps30
  go_wp2_with fail
  go_loopw [3, 9] (fun x i wr => ∃ (k g n cap' : Nat), k ≤ len ∧ i = .int .i64 k ∧ x = .slice (some ⟨g, 0, none⟩) n cap' ∧ n ≤ 1 + 2 * k ∧ Hid (Row8 wr w.heap.size g n cap' (34 :: esc (bs.take k))) ∧ Hid (Below w.heap.size w wr))
    (fun _ i _ => len - (intOf i).toNat)
  case atStart => exact ⟨0, w.heap.size, 1, 1, Nat.zero_le _, rfl, rfl, by omega, HR0, bl_a _⟩
  case round =>
    obtain ⟨k, g, n, cap', hk, rfl, rfl, hn, HR, HB⟩ := hrel
    clear HR0
    by_cases hlk : k < len
    · obtain ⟨b, off, rfl, hbl, hc⟩ := HBs.out.2.2.2.resolve_left (by omega)
      have hx := (HB.out.cell (p := ⟨b, off + k, none⟩) hbl).trans (hc k hlk)
      have hv := HBs.out.2.2.1 k
      have HE : Hid (esc (bs.take (k + 1)) = esc (bs.take k) ++ (if bs[k]?.getD 0 = 34 ∨ bs[k]?.getD 0 = 92 then [92, bs[k]?.getD 0] else [bs[k]?.getD 0])) := by
        show _ = _
        rw [take_snoc bs k (by have := HL.out; omega), esc_snoc]
      clear hc
      generalize bs[k]?.getD 0 = v at *
      have HR1 : ∀ y : Int, Hid (Row8 (wr.alloc (.cells #[.int .u8 y] 5)) w.heap.size g n cap' (34 :: esc (bs.take k))) := fun y => HR.out.below (bl_a _)
      have HB1 : ∀ y : Int, Hid (Below w.heap.size w (wr.alloc (.cells #[.int .u8 y] 5))) := fun y => bl_alloc HB.out _
      by_cases hq : v = 34 ∨ v = 92
      · have HE' : Hid (esc (bs.take (k + 1)) = esc (bs.take k) ++ [92, v]) := by show _ = _; rw [HE.out, if_pos hq]
        clear HE
        have hor : ((v == 34) || (v == 92)) = true := by simpa using hq
        cases h34 : (v == 34)
        · have h92 : (v == 92) = true := by simpa [h34] using hor
          clear hq hor
          go_wp2_with (first
            | (refine wpList_append_lies _ rfl (.tmp 19) (.tmp 20) 22 rfl w.heap.size 5 i0 (.int .u8 0) 1 1 Tryz.underlying22 hi0 hi2 hi1 hi3 rfl (by omega) (.slice (some ⟨g, 0, none⟩) n cap') n ((34 :: esc (bs.take k)).map (Value.int .u8)) rfl (HR1 92).out.1 ⟨wr.heap.size, 0, none⟩ 1 _ [.int .u8 92] rfl rfl (one_news wr 92) (by simp [Value.oneCell']) (by omega) (by unfold maxLen; omega) (by omega) (HB1 92).out.size _ rfl ?_; intro g3 cap3 w3 hown3 hgr3 hgg3 hlt3; have hr3 : Row8 w3 w.heap.size g3 (n + 1) cap3 ((34 :: esc (bs.take k)) ++ [92]) := Row8.grown (us := 34 :: esc (bs.take k)) (bs := [92]) hown3 rfl hlt3; have hb3 : Below w.heap.size w w3 := (HB1 92).out.trans (grown_below (g := g) hgr3 HR.out.ge (HB1 92).out.size); clear hown3 hgr3 hgg3; have HR3 : Hid (Row8 (w3.alloc (.cells #[.int .u8 v] 5)) w.heap.size g3 (n + 1) cap3 ((34 :: esc (bs.take k)) ++ [92])) := hr3.below (bl_a _); have HB3 : Hid (Below w.heap.size w (w3.alloc (.cells #[.int .u8 v] 5))) := bl_alloc hb3 _; clear hr3 hb3)
            | (refine wpList_append_lies _ rfl (.tmp 22) (.tmp 24) 22 rfl w.heap.size 5 i0 (.int .u8 0) 1 1 Tryz.underlying22 hi0 hi2 hi1 hi3 rfl (by omega) (.slice (some ⟨g3, 0, none⟩) (n + 1) cap3) (n + 1) (((34 :: esc (bs.take k)) ++ [92]).map (Value.int .u8)) rfl HR3.out.1 ⟨w3.heap.size, 0, none⟩ 1 _ [.int .u8 v] rfl rfl (one_news w3 v) (by simp [Value.oneCell']) (by omega) (by unfold maxLen; omega) (by omega) HB3.out.size _ rfl ?_; intro g4 cap4 w4 hown4 hgr4 hgg4 hlt4; have HR4 : Hid (Row8 w4 w.heap.size g4 (n + 1 + 1) cap4 (((34 :: esc (bs.take k)) ++ [92]) ++ [v])) := Row8.grown (us := (34 :: esc (bs.take k)) ++ [92]) (bs := [v]) hown4 rfl hlt4; have HB4 : Hid (Below w.heap.size w w4) := HB3.out.trans (grown_below (g := g3) hgr4 HR3.out.ge HB3.out.size); clear hown4 hgr4 hgg4))
          go_roundw
          case rel =>
            refine ⟨k + 1, g4, n + 1 + 1, cap4, by omega, by go_num, rfl, by omega, ?_, HB4⟩
            have h := HR4.out
            show Row8 _ _ _ _ _ _
            rw [HE'.out]
            simpa using h
          case measure => simp [intOf]; omega
        · clear hq hor
          go_wp2_with (first
            | (refine wpList_append_lies _ rfl (.tmp 19) (.tmp 20) 22 rfl w.heap.size 5 i0 (.int .u8 0) 1 1 Tryz.underlying22 hi0 hi2 hi1 hi3 rfl (by omega) (.slice (some ⟨g, 0, none⟩) n cap') n ((34 :: esc (bs.take k)).map (Value.int .u8)) rfl (HR1 92).out.1 ⟨wr.heap.size, 0, none⟩ 1 _ [.int .u8 92] rfl rfl (one_news wr 92) (by simp [Value.oneCell']) (by omega) (by unfold maxLen; omega) (by omega) (HB1 92).out.size _ rfl ?_; intro g3 cap3 w3 hown3 hgr3 hgg3 hlt3; have hr3 : Row8 w3 w.heap.size g3 (n + 1) cap3 ((34 :: esc (bs.take k)) ++ [92]) := Row8.grown (us := 34 :: esc (bs.take k)) (bs := [92]) hown3 rfl hlt3; have hb3 : Below w.heap.size w w3 := (HB1 92).out.trans (grown_below (g := g) hgr3 HR.out.ge (HB1 92).out.size); clear hown3 hgr3 hgg3; have HR3 : Hid (Row8 (w3.alloc (.cells #[.int .u8 v] 5)) w.heap.size g3 (n + 1) cap3 ((34 :: esc (bs.take k)) ++ [92])) := hr3.below (bl_a _); have HB3 : Hid (Below w.heap.size w (w3.alloc (.cells #[.int .u8 v] 5))) := bl_alloc hb3 _; clear hr3 hb3)
            | (refine wpList_append_lies _ rfl (.tmp 22) (.tmp 24) 22 rfl w.heap.size 5 i0 (.int .u8 0) 1 1 Tryz.underlying22 hi0 hi2 hi1 hi3 rfl (by omega) (.slice (some ⟨g3, 0, none⟩) (n + 1) cap3) (n + 1) (((34 :: esc (bs.take k)) ++ [92]).map (Value.int .u8)) rfl HR3.out.1 ⟨w3.heap.size, 0, none⟩ 1 _ [.int .u8 v] rfl rfl (one_news w3 v) (by simp [Value.oneCell']) (by omega) (by unfold maxLen; omega) (by omega) HB3.out.size _ rfl ?_; intro g4 cap4 w4 hown4 hgr4 hgg4 hlt4; have HR4 : Hid (Row8 w4 w.heap.size g4 (n + 1 + 1) cap4 (((34 :: esc (bs.take k)) ++ [92]) ++ [v])) := Row8.grown (us := (34 :: esc (bs.take k)) ++ [92]) (bs := [v]) hown4 rfl hlt4; have HB4 : Hid (Below w.heap.size w w4) := HB3.out.trans (grown_below (g := g3) hgr4 HR3.out.ge HB3.out.size); clear hown4 hgr4 hgg4))
          go_roundw
          case rel =>
            refine ⟨k + 1, g4, n + 1 + 1, cap4, by omega, by go_num, rfl, by omega, ?_, HB4⟩
            have h := HR4.out
            show Row8 _ _ _ _ _ _
            rw [HE'.out]
            simpa using h
          case measure => simp [intOf]; omega
      · have HE' : Hid (esc (bs.take (k + 1)) = esc (bs.take k) ++ [v]) := by show _ = _; rw [HE.out, if_neg hq]
        have h34 : (v == 34) = false := by simp; omega
        have h92 : (v == 92) = false := by simp; omega
        clear HE hq
        go_wp2_with (refine wpList_append_lies _ rfl (.tmp 22) (.tmp 24) 22 rfl w.heap.size 5 i0 (.int .u8 0) 1 1 Tryz.underlying22 hi0 hi2 hi1 hi3 rfl (by omega) (.slice (some ⟨g, 0, none⟩) n cap') n ((34 :: esc (bs.take k)).map (Value.int .u8)) rfl (HR1 v).out.1 ⟨wr.heap.size, 0, none⟩ 1 _ [.int .u8 v] rfl rfl (one_news wr v) (by simp [Value.oneCell']) (by omega) (by unfold maxLen; omega) (by omega) (HB1 v).out.size _ rfl ?_; intro g4 cap4 w4 hown4 hgr4 hgg4 hlt4; have HR4 : Hid (Row8 w4 w.heap.size g4 (n + 1) cap4 ((34 :: esc (bs.take k)) ++ [v])) := Row8.grown (us := 34 :: esc (bs.take k)) (bs := [v]) hown4 rfl hlt4; have HB4 : Hid (Below w.heap.size w w4) := (HB1 v).out.trans (grown_below (g := g) hgr4 HR.out.ge (HB1 v).out.size); clear hown4 hgr4 hgg4)
        go_roundw
        case rel =>
          refine ⟨k + 1, g4, n + 1, cap4, by omega, by go_num, rfl, by omega, ?_, HB4⟩
          have := HR4.out
          show Row8 _ _ _ _ _ _
          rw [HE'.out]
          exact this
        case measure => simp [intOf]; omega
    · obtain rfl : k = len := by omega
      have HR' : Hid (Row8 wr w.heap.size g n cap' (34 :: esc bs)) := by
        have := HR.out
        rwa [List.take_of_length_le (by have := HL.out; omega)] at this
      have HR1 : Hid (Row8 (wr.alloc (.cells #[.int .u8 34] 5)) w.heap.size g n cap' (34 :: esc bs)) := HR'.out.below (bl_a _)
      have HB1 : Hid (Below w.heap.size w (wr.alloc (.cells #[.int .u8 34] 5))) := bl_alloc HB.out _
      have HNL : Hid (n = (34 :: esc bs : List Int).length) := by
        have := HR'.out.1.1
        show _ = _
        simpa using this.symm
      clear HR
      go_wp2_with (refine wpList_append_lies _ rfl (.tmp 27) (.tmp 28) 22 rfl w.heap.size 5 i0 (.int .u8 0) 1 1 Tryz.underlying22 hi0 hi2 hi1 hi3 rfl (by omega) (.slice (some ⟨g, 0, none⟩) n cap') n ((34 :: esc bs).map (Value.int .u8)) rfl HR1.out.1 ⟨wr.heap.size, 0, none⟩ 1 _ [.int .u8 34] rfl rfl (one_news wr 34) (by simp [Value.oneCell']) (by omega) (by unfold maxLen; omega) (by omega) HB1.out.size _ rfl ?_; intro g4 cap4 w4 hown4 hgr4 hgg4 hlt4; have hr4 := Row8.grown (us := 34 :: esc bs) (bs := [34]) hown4 rfl hlt4; have hb4 : Below w.heap.size w w4 := HB1.out.trans (grown_below (g := g) hgr4 HR'.out.ge HB1.out.size); clear hown4 hgr4 hgg4)
      go_ret
      have el : (34 :: (esc bs ++ [34]) : List Int).length = n + 1 := by rw [HNL.out]; simp
      exact ⟨g4, cap4, by rw [el]; rfl, by rw [el]; exact hr4, hb4⟩
end Go.Proofs.YtoclingolfdfeaaGreatDoor

/- CmpA -/
namespace Go.Proofs.YtoclingolfdfeaaGreatDoor
open Go.RowKit Go.Deep

/-- 10 to the k. -/
def p10 : Nat → Int
  | 0 => 1
  | k + 1 => p10 k * 10
theorem p10_pos (k : Nat) : 1 ≤ p10 k := by
  induction k with
  | zero => simp [p10]
  | succ k ih => unfold p10; omega
theorem p10_mono {j k : Nat} (h : j ≤ k) : p10 j ≤ p10 k := by
  induction h with
  | refl => exact Int.le_refl _
  | @step m _ ih =>
    have e : p10 m.succ = p10 m * 10 := rfl
    have := p10_pos m
    omega
theorem p10_le {k : Nat} (h : k ≤ 6) : p10 k ≤ 1000000 := by
  have := p10_mono h
  have e : p10 6 = 1000000 := by decide
  omega

theorem tenTo_any (k : Nat) (w : World) (hk : k ≤ 6) : Calls Tryz.prog 63 #[.int .i64 k] w fun e w' => e = .returned (.int .i64 (p10 k)) ∧ w' = w := by
  go_enter Tryz.func63, Tryz.ntmps63
  go_wp2
  go_loop [3, 5] (fun n i => ∃ j : Nat, j ≤ k ∧ n = .int .i64 (p10 j) ∧ i = .int .i64 j) (fun _ i => k - (intOf i).toNat)
  case atStart => exact ⟨0, Nat.zero_le _, rfl, rfl⟩
  case round =>
    obtain ⟨j, hj, rfl, rfl⟩ := hrel
    have b1 := p10_pos j
    have b2 := p10_le (Nat.le_trans hj hk)
    go_wp2
    · go_round
      case rel => exact ⟨j + 1, by omega, by rfl, by go_num⟩
      case measure => simp [intOf]; omega
    · go_ret
      have e : j = k := by omega
      rw [e]
      exact ⟨rfl, rfl⟩

/-- -1, 0, 1. -/
def cmpI (x y : Int) : Int := if x < y then -1 else if y < x then 1 else 0
theorem cmpI_lt {x y : Int} (h : x < y) : cmpI x y = -1 := by simp [cmpI, h]
theorem cmpI_gt {x y : Int} (h : y < x) : cmpI x y = 1 := by simp [cmpI, h]; omega
theorem cmpI_eq {x y : Int} (h : x = y) : cmpI x y = 0 := by simp [cmpI, h]

theorem isNaN_any (x : Int) (w : World) : Calls Tryz.prog 169 #[.int .i64 x] w fun e w' => e = .returned (.bool false) ∧ w' = w := by
  go_enter Tryz.func169, Tryz.ntmps169
  go_wp2
  go_ret
  exact ⟨rfl, rfl⟩
theorem cmpInt_any (x y : Int) (w : World) : Calls Tryz.prog 153 #[.int .i64 x, .int .i64 y] w fun e w' => e = .returned (.int .i64 (cmpI x y)) ∧ w' = w := by
  by_cases h : x < y
  · rw [cmpI_lt h]
    go_enter Tryz.func153, Tryz.ntmps153
    go_wp2_with (go_at_call 169; refine (isNaN_any _ _).mono ?_; rintro e w1 ⟨rfl, rfl⟩)
    go_ret
    exact ⟨rfl, rfl⟩
  · by_cases h2 : y < x
    · rw [cmpI_gt h2]
      go_enter Tryz.func153, Tryz.ntmps153
      go_wp2_with (go_at_call 169; refine (isNaN_any _ _).mono ?_; rintro e w1 ⟨rfl, rfl⟩)
      go_ret
      exact ⟨rfl, rfl⟩
    · rw [cmpI_eq (by omega)]
      go_enter Tryz.func153, Tryz.ntmps153
      go_wp2_with (go_at_call 169; refine (isNaN_any _ _).mono ?_; rintro e w1 ⟨rfl, rfl⟩)
      go_ret
      exact ⟨rfl, rfl⟩
def sideI (p q : Bool) : Int := if p then -1 else if q then 1 else 0
/-- The first of two that is not nought. -/
def orI (x y : Int) : Int := if x = 0 then y else x
theorem cmpOr_any (x y : Int) (b : Nat) (w : World) (h0 : w.cell? ⟨b, 0, none⟩ = some (.int .i64 x)) (h1 : w.cell? ⟨b, 1, none⟩ = some (.int .i64 y)) :
    Calls Tryz.prog 73 #[.slice (some ⟨b, 0, none⟩) 2 2] w fun e w' => e = .returned (.int .i64 (orI x y)) ∧ w' = w := by
  by_cases hx : x = 0
  · subst hx
    by_cases hy : y = 0
    · subst hy
      have e0 : orI 0 0 = 0 := rfl
      rw [e0]
      go_enter Tryz.func73, Tryz.ntmps73
      go_wp2
      refine wp_loop_rounds 3 ?_
      rw [rounds_succ]
      go_wp2
      rw [rounds_succ]
      go_wp2
      rw [rounds_succ]
      go_wp2
      go_ret
      exact ⟨rfl, rfl⟩
    · have hy' : (y != 0) = true := by simp; omega
      have e0 : orI 0 y = y := rfl
      rw [e0]
      clear hy
      go_enter Tryz.func73, Tryz.ntmps73
      go_wp2
      refine wp_loop_rounds 2 ?_
      rw [rounds_succ]
      go_wp2
      rw [rounds_succ]
      go_wp2
      go_ret
      exact ⟨rfl, rfl⟩
  · have hx' : (x != 0) = true := by simp; omega
    have e0 : orI x y = x := by simp [orI, hx]
    rw [e0]
    clear hx
    go_enter Tryz.func73, Tryz.ntmps73
    go_wp2
    refine wp_loop_rounds 1 ?_
    rw [rounds_succ]
    go_wp2
    go_ret
    exact ⟨rfl, rfl⟩
end Go.Proofs.YtoclingolfdfeaaGreatDoor

/- ShwF -/
namespace Go.Proofs.YtoclingolfdfeaaGreatDoor
open Go.RowKit Go.Deep
set_option maxRecDepth 100000

/-- What a number shows as, less its sign. -/
def numL (n : Int) (s : Nat) : List Int :=
  digitsL (n / p10 s).toNat ++ (if s = 0 then [] else 46 :: (List.replicate (s - (digitsL (n % p10 s).toNat).length) 48 ++ digitsL (n % p10 s).toNat))

theorem below_nil {w w' : World} {B : Nat} (h : w.grownBy w' none) (hw : B ≤ w.heap.size) : Below B w w' :=
  ⟨h.os, h.tape, h.output, h.size, fun b hb => h.block b (by omega) (by simp)⟩

theorem far {gx g6 g5 H nx cx : Nat} (h : (Value.slice (some ⟨gx, 0, none⟩) nx cx).ownBlock = some g6 ∨ g6 = H) (hne : gx ≠ g5) (hl : g5 < H) : g6 ≠ g5 := by
  rcases h with h | h
  · have : gx = g6 := by simpa [Value.ownBlock] using h
    omega
  · omega

end Go.Proofs.YtoclingolfdfeaaGreatDoor

/- ShwG -/
namespace Go.Proofs.YtoclingolfdfeaaGreatDoor
open Go.RowKit Go.Deep
set_option maxRecDepth 100000

/-- append of bytes to a row of bytes of the call's own (or to none as yet): the row, and what is left of what was there. -/
theorem app8 {ops : Array Oper} {rest : List Oper} {o : Oper} {a : Act} {Q : Exit → Act → World → Prop} {w : World} (hgd : o.guard = none) (s x : Operand)
    (ho : o.op = .call { callee := .builtin .append, args := #[s, x], argTypes := #[22, 22] })
    (B : Nat) (v : Value) (n : Nat) (us : List Int) (hs : a.eval s = v) (HO : Hid (w.ownsRow B 5 1 v n (us.map (Value.int .u8))))
    (ad : Addr) (m c : Nat) (bs : List Int) (hx : a.eval x = .slice (some ad) m c) (hl : bs.length = m) (HN : Hid (∀ j u, (bs.map (Value.int .u8))[j]? = some u → w.cell? (ad.add j) = some u))
    (hm : 0 < m) (N : Nat) (hN : n + m = N) (zs : List Int) (hz : us ++ bs = zs) (hle : N ≤ 1000000000) (hB : B ≤ w.heap.size)
    (h : ∀ g cap w', Hid (Row8 w' B g N cap zs) → Hid (w.grownBy w' v.ownBlock) → Hid (v.ownBlock = some g ∨ g = w.heap.size) → Hid (Below B w w') → wpList Tryz.prog ops Q rest (a.put o.dst (.slice (some ⟨g, 0, none⟩) N cap)) w') :
    wpList Tryz.prog ops Q (o :: rest) a w := by
  obtain ⟨i0, hi0, hzz⟩ := Option.map_eq_some_iff.1 Tryz.info5
  simp only [Prod.mk.injEq] at hzz
  obtain ⟨hi2, hi1, hi3⟩ := hzz
  subst hN hz
  refine wpList_append_lies _ hgd s x 22 ho B 5 i0 (.int .u8 0) 1 1 Tryz.underlying22 hi0 hi2 hi1 hi3 rfl (by omega) v n (us.map (Value.int .u8)) hs HO.out ad m c (bs.map (Value.int .u8)) hx (by simp [hl]) HN.out (oneCell_map bs) hm (by unfold maxLen; omega) (by omega) hB _ rfl ?_
  intro g cap w' hown hgr hat hlt
  refine h g cap w' (Row8.grown hown rfl hlt) hgr hat ?_
  rcases HO.out.2 with ⟨hv, _⟩ | ⟨g0, c0, cur, hv, hb, _⟩
  · subst hv
    exact below_nil hgr hB
  · subst hv
    exact grown_below (g := g0) hgr hb hB

theorem Row8.own {w : World} {B g n cap : Nat} {bs : List Int} (h : Row8 w B g n cap bs) : Hid (w.ownsRow B 5 1 (.slice (some ⟨g, 0, none⟩) n cap) n (bs.map (Value.int .u8))) := h.1
theorem Row8.len {w : World} {B g n cap : Nat} {bs : List Int} (h : Row8 w B g n cap bs) : bs.length = n := by simpa using h.1.1
end Go.Proofs.YtoclingolfdfeaaGreatDoor

/- TxtC -/
namespace Go.Proofs.YtoclingolfdfeaaGreatDoor
open Go.RowKit Go.Deep

/-- A text that is none, or lies in a block of its own from B on; what is behind it may be written. -/
def Tx (w : World) (B : Nat) (a : Option Addr) (len cap : Nat) (bs : List Int) : Prop :=
  Bs w a len bs ∧ ((a = none ∧ len = 0 ∧ cap = 0) ∨ ∃ g, a = some ⟨g, 0, none⟩ ∧ B ≤ g ∧ g < w.heap.size ∧ len ≤ cap ∧ ∀ j, j < cap → (∃ v, w.cell? ⟨g, j, none⟩ = some (.int .u8 v)) ∧ w.frozen? ⟨g, j, none⟩ = false)
theorem Tx.below {w w' : World} {B : Nat} {a : Option Addr} {len cap : Nat} {bs : List Int} (h : Tx w B a len cap bs) (hb : Below w.heap.size w w') : Tx w' B a len cap bs := by
  refine ⟨h.1.below hb, ?_⟩
  rcases h.2 with h2 | ⟨g, ha, hB, hg, hl, hc⟩
  · exact .inl h2
  · refine .inr ⟨g, ha, hB, Nat.lt_of_lt_of_le hg hb.size, hl, fun j hj => ?_⟩
    rw [hb.cell (p := ⟨g, j, none⟩) hg, hb.frozen (p := ⟨g, j, none⟩) hg]
    exact hc j hj
theorem Tx.mono {w : World} {B B' : Nat} {a : Option Addr} {len cap : Nat} {bs : List Int} (h : Tx w B a len cap bs) (hB : B' ≤ B) : Tx w B' a len cap bs := by
  refine ⟨h.1, ?_⟩
  rcases h.2 with h2 | ⟨g, ha, hg, hr⟩
  · exact .inl h2
  · exact .inr ⟨g, ha, Nat.le_trans hB hg, hr⟩
theorem Tx.nil (w : World) (B : Nat) : Tx w B none 0 0 [] := ⟨⟨rfl, by omega, by simp, .inl rfl⟩, .inl ⟨rfl, rfl, rfl⟩⟩

def numsOf (s : ByteArray) : List Int := s.data.toList.map (fun b => (b.toNat : Int))
theorem Tx.conv (w : World) (s : ByteArray) (e : TypeId) (hs : s.size ≤ 1048576) : Tx (Lib.bytesWorld w e s) w.heap.size (some ⟨w.heap.size, 0, none⟩) s.size (grownCap w s.size 0 e) (numsOf s) := by
  have hge := grownCap_ge w s.size 0 e
  refine ⟨⟨by simp [numsOf], hs, fun i => ?_, .inr ⟨w.heap.size, 0, rfl, by rw [Lib.bytesWorld_size]; omega, fun i hi => ?_⟩⟩, .inr ⟨w.heap.size, rfl, Nat.le_refl _, by rw [Lib.bytesWorld_size]; omega, hge, fun j hj => ?_⟩⟩
  · by_cases h : i < s.data.toList.length
    · have hb := (s.data.toList[i]).toNat_lt
      simp only [numsOf, List.getElem?_map, List.getElem?_eq_getElem h, Option.map_some, Option.getD_some]
      omega
    · simp only [numsOf, List.getElem?_map, List.getElem?_eq_none (Nat.le_of_not_lt h), Option.map_none, Option.getD_none]
      omega
  · rw [Nat.zero_add, Lib.bytesWorld_cell w e s i hi]
    have h : i < s.data.toList.length := by simpa using hi
    simp only [numsOf, List.getElem?_map, List.getElem?_eq_getElem h, Option.map_some, Option.getD_some, List.getD_eq_getElem?_getD]
  · have hsz : (Lib.bytesCells w e s).size = grownCap w s.size 0 e := by
      simp [Lib.bytesCells]
      omega
    refine ⟨?_, ?_⟩
    · have hj' : j < (Lib.bytesCells w e s).size := by omega
      simp only [World.cell?, Lib.bytesWorld_at_new]
      by_cases hjs : j < s.size
      · exact ⟨(s.data[j]'hjs).toNat, by simp [Lib.bytesCells, Array.getElem?_append, hjs]⟩
      · refine ⟨0, ?_⟩
        have h1 : ¬ j < (s.data.map fun b => Value.int .u8 b.toNat).size := by simpa using hjs
        have h2 : j - (s.data.map fun b => Value.int .u8 b.toNat).size < grownCap w s.size 0 e - s.size := by simp; omega
        rw [Lib.bytesCells, Array.getElem?_append, if_neg h1, Array.getElem?_replicate, if_pos h2]
        rfl
    · simp only [World.frozen?, Lib.bytesWorld_at_new, hsz]
      simp
      omega
theorem bytesWorld_below (w : World) (e : TypeId) (s : ByteArray) : Below w.heap.size w (Lib.bytesWorld w e s) := by
  refine ⟨?_, ?_, ?_, by rw [Lib.bytesWorld_size]; omega, fun b hb => Lib.bytesWorld_at_old w e s b hb⟩ <;> rfl

/-- A list of bytes. -/
def Byt (l : List Int) : Prop := ∀ x ∈ l, 0 ≤ x ∧ x ≤ 255
theorem Byt.get {l : List Int} (h : Byt l) (i : Nat) : 0 ≤ l[i]?.getD 0 ∧ l[i]?.getD 0 ≤ 255 := by
  by_cases hi : i < l.length
  · rw [List.getElem?_eq_getElem hi]
    exact h _ (List.getElem_mem hi)
  · rw [List.getElem?_eq_none (by omega)]
    simp
theorem Byt.of {l : List Int} (h : ∀ i : Nat, 0 ≤ l[i]?.getD 0 ∧ l[i]?.getD 0 ≤ 255) : Byt l := by
  intro x hx
  obtain ⟨i, hi, rfl⟩ := List.getElem_of_mem hx
  have := h i
  rwa [List.getElem?_eq_getElem hi] at this
theorem Byt.app {l m : List Int} (h : Byt l) (k : Byt m) : Byt (l ++ m) := by
  intro x hx
  rcases List.mem_append.1 hx with hx | hx
  · exact h x hx
  · exact k x hx
theorem Byt.cons {a : Int} {l : List Int} (ha : 0 ≤ a ∧ a ≤ 255) (h : Byt l) : Byt (a :: l) := by
  intro x hx
  rcases List.mem_cons.1 hx with rfl | hx
  · exact ha
  · exact h x hx
theorem Byt.nil : Byt [] := fun x hx => by cases hx
theorem Bs.byt {w : World} {a : Option Addr} {len : Nat} {bs : List Int} (h : Bs w a len bs) : Byt bs := Byt.of h.2.2.1

theorem numsOf_append (s t : ByteArray) : numsOf (s ++ t) = numsOf s ++ numsOf t := by simp [numsOf]
theorem numsOf_len (s : ByteArray) : (numsOf s).length = s.size := by simp [numsOf]
theorem numsOf_nums {bs : List Int} (h : Byt bs) : numsOf (strOfNums bs) = bs := by
  unfold numsOf
  rw [strOfNums_data, List.map_map]
  have : ∀ x ∈ bs, ((fun b : UInt8 => (b.toNat : Int)) ∘ fun n : Int => UInt8.ofNat n.toNat) x = x := by
    intro x hx
    obtain ⟨h0, h1⟩ := h x hx
    simp
    omega
  rw [List.map_congr_left this, List.map_id']
theorem Bs.str {w : World} {a : Option Addr} {len cap : Nat} {bs : List Int} (h : Bs w a len bs) : (convert 22 9 (.slice a len cap)).run Tryz.prog w = .ok (.string (strOfNums bs)) w := by
  obtain ⟨hl, _, _, h4⟩ := h
  rcases h4 with h4 | ⟨b, off, rfl, _, hc⟩
  · subst h4
    have e : bs = [] := List.eq_nil_of_length_eq_zero hl
    subst e
    cases a with
    | none =>
      rw [run_convert_bytes_nil w 22 5 Tryz.underlying22 Tryz.underlying5 0 cap 9 Tryz.underlying9]
      rfl
    | some x =>
      have hl : (loadCells x 0).run Tryz.prog w = .ok (([] : List Int).map (Value.int .u8)).toArray w := rfl
      rw [run_convert_bytes_string w 22 9 5 _ 0 cap Tryz.underlying22 Tryz.underlying5 Tryz.underlying9, run_bytesToString w _ 0 cap [] hl]
      rfl
  · exact run_convert_bytes_arg w 22 5 Tryz.underlying22 Tryz.underlying5 b off len cap bs hl (fun i hi => by rw [hc i hi, List.getD_eq_getElem?_getD]) 9 Tryz.underlying9
end Go.Proofs.YtoclingolfdfeaaGreatDoor

/- MrkA -/
namespace Go.Proofs.YtoclingolfdfeaaGreatDoor
open Go.RowKit Go.Deep

/-- All blocks but g are as they were. -/
structure But (g : Nat) (w w' : World) : Prop where
  os : w'.os = w.os
  tape : w'.tape = w.tape
  output : w'.output = w.output
  size : w'.heap.size = w.heap.size
  block : ∀ b, b ≠ g → w'.heap[b]? = w.heap[b]?
theorem But.refl (g : Nat) (w : World) : But g w w := ⟨rfl, rfl, rfl, rfl, fun _ _ => rfl⟩
theorem But.set {g : Nat} {w w' : World} (h : But g w w') (i : Nat) (v : Value) : But g w (w'.setCell ⟨g, i, none⟩ v) :=
  ⟨h.os, h.tape, h.output, by simpa using h.size, fun b hb => (Below.heap_setCell _ _ _ _ hb).trans (h.block b hb)⟩
theorem But.cell {g : Nat} {w w' : World} (h : But g w w') {p : Addr} (hp : p.block ≠ g) : w'.cell? p = w.cell? p := World.cell?_of_block (w := w) (h.block p.block hp)
theorem But.frozen {g : Nat} {w w' : World} (h : But g w w') {p : Addr} (hp : p.block ≠ g) : w'.frozen? p = w.frozen? p := World.frozen?_of_block (w := w) (h.block p.block hp)
theorem But.below {g B : Nat} {w w' : World} (h : But g w w') (hg : B ≤ g) : Below B w w' :=
  ⟨h.os, h.tape, h.output, by rw [h.size]; exact Nat.le_refl _, fun b hb => h.block b (by omega)⟩

theorem set_same {w : World} {g i : Nat} {u v : Value} (h : w.cell? ⟨g, i, none⟩ = some u) : (w.setCell ⟨g, i, none⟩ v).cell? ⟨g, i, none⟩ = some v := by
  simp [go_sem, h]
theorem set_other {w : World} {g i j : Nat} {v : Value} (h : i ≠ j) : (w.setCell ⟨g, j, none⟩ v).cell? ⟨g, i, none⟩ = w.cell? ⟨g, i, none⟩ := by
  simp [go_sem]

end Go.Proofs.YtoclingolfdfeaaGreatDoor

/- OwnA -/
namespace Go.Proofs.YtoclingolfdfeaaGreatDoor
open Go.RowKit Go.Deep

/-- A text of the call's own in block g: what it holds, and that it may be written. -/
def OwnT (w : World) (g len : Nat) (bs : List Int) : Prop :=
  Bs w (some ⟨g, 0, none⟩) len bs ∧ g < w.heap.size ∧ (∀ i, i < len → ∃ v, w.cell? ⟨g, i, none⟩ = some (.int .u8 v)) ∧ (∀ i, i < len → w.frozen? ⟨g, i, none⟩ = false)
theorem OwnT.below {w w' : World} {g len : Nat} {bs : List Int} (h : OwnT w g len bs) (hb : Below w.heap.size w w') : OwnT w' g len bs := by
  obtain ⟨h1, h2, h3, h4⟩ := h
  refine ⟨h1.below hb, Nat.lt_of_lt_of_le h2 hb.size, fun i hi => ?_, fun i hi => (hb.frozen (p := ⟨g, i, none⟩) h2).trans (h4 i hi)⟩
  obtain ⟨v, hv⟩ := h3 i hi
  exact ⟨v, (hb.cell (p := ⟨g, i, none⟩) h2).trans hv⟩
theorem Bs.but {w w' : World} {g b len : Nat} {bs : List Int} (h : Bs w (some ⟨b, 0, none⟩) len bs) (hb : But g w w') (hne : b ≠ g) : Bs w' (some ⟨b, 0, none⟩) len bs := by
  obtain ⟨h1, h2, h3, h4⟩ := h
  refine ⟨h1, h2, h3, ?_⟩
  rcases h4 with h4 | ⟨b', off, ha, hlt, hc⟩
  · exact .inl h4
  · cases ha
    exact .inr ⟨b, 0, rfl, by rw [hb.size]; exact hlt, fun i hi => (hb.cell (p := ⟨b, 0 + i, none⟩) hne).trans (hc i hi)⟩
theorem OwnT.but {w w' : World} {g b len : Nat} {bs : List Int} (h : OwnT w b len bs) (hb : But g w w') (hne : b ≠ g) : OwnT w' b len bs := by
  obtain ⟨h1, h2, h3, h4⟩ := h
  refine ⟨h1.but hb hne, by rw [hb.size]; exact h2, fun i hi => ?_, fun i hi => (hb.frozen (p := ⟨b, i, none⟩) hne).trans (h4 i hi)⟩
  obtain ⟨v, hv⟩ := h3 i hi
  exact ⟨v, (hb.cell (p := ⟨b, i, none⟩) hne).trans hv⟩
theorem At4.but {w w' : World} {g b : Nat} {v0 v1 v2 v3 : Value} (h : At4 w b v0 v1 v2 v3) (hb : But g w w') (hne : b ≠ g) : At4 w' b v0 v1 v2 v3 := by
  obtain ⟨hl, h0, h1, h2, h3⟩ := h
  exact ⟨by rw [hb.size]; exact hl, (hb.cell (p := ⟨b, 0, none⟩) hne).trans h0, (hb.cell (p := ⟨b, 1, none⟩) hne).trans h1, (hb.cell (p := ⟨b, 2, none⟩) hne).trans h2, (hb.cell (p := ⟨b, 3, none⟩) hne).trans h3⟩
end Go.Proofs.YtoclingolfdfeaaGreatDoor

/- ShwH -/
namespace Go.Proofs.YtoclingolfdfeaaGreatDoor
open Go.RowKit Go.Deep
set_option maxRecDepth 100000

/-- What a term that may be shows as. -/
def showL (k n s : Int) (bs : List Int) : List Int :=
  if k = 0 then 60 :: (bs ++ [62]) else if k = 1 then 95 :: 58 :: digitsL n.toNat else if k = 2 then 34 :: (esc bs ++ [34]) else if n < 0 then 45 :: numL (-n) s.toNat else numL n s.toNat
/-- What Show writes. -/
def shownL (k n s : Int) (bs : List Int) : List Int := if termOk k bs n s = true then showL k n s bs else []

theorem digitsL_byt (n : Nat) : Byt (digitsL n) := by
  induction n using Nat.strongRecOn with
  | ind n ih =>
    by_cases h : n < 10
    · rw [digitsL_small h]
      exact Byt.cons (by omega) Byt.nil
    · rw [digitsL_step h]
      exact (ih (n / 10) (by omega)).app (Byt.cons (by omega) Byt.nil)
theorem esc_byt {bs : List Int} (h : Byt bs) : Byt (esc bs) := by
  intro x hx
  unfold esc at hx
  obtain ⟨b, hb, hx⟩ := List.mem_flatMap.1 hx
  have := h b hb
  split at hx
  · simp at hx
    rcases hx with rfl | rfl
    · omega
    · exact this
  · simp at hx
    subst hx
    exact this
theorem rep_byt (n : Nat) : Byt (List.replicate n 48) := by
  intro x hx
  have := (List.mem_replicate.1 hx).2
  omega
theorem numL_byt (n : Int) (s : Nat) : Byt (numL n s) := by
  unfold numL
  refine (digitsL_byt _).app ?_
  split
  · exact Byt.nil
  · exact Byt.cons (by omega) ((rep_byt _).app (digitsL_byt _))
theorem showL_byt {k n s : Int} {bs : List Int} (h : Byt bs) : Byt (showL k n s bs) := by
  unfold showL
  split
  · exact Byt.cons (by omega) (h.app (Byt.cons (by omega) Byt.nil))
  split
  · exact Byt.cons (by omega) (Byt.cons (by omega) (digitsL_byt _))
  split
  · exact Byt.cons (by omega) ((esc_byt h).app (Byt.cons (by omega) Byt.nil))
  split
  · exact Byt.cons (by omega) (numL_byt _ _)
  · exact numL_byt _ _
theorem shownL_byt {k n s : Int} {bs : List Int} (h : Byt bs) : Byt (shownL k n s bs) := by
  unfold shownL
  split
  · exact showL_byt h
  · exact Byt.nil

theorem numOk_bounds {n s : Int} (h : numOk n s = true) : 0 ≤ s ∧ s ≤ 6 ∧ -1000000000000000 ≤ n ∧ n ≤ 1000000000000000 := by
  simp [numOk] at h
  exact ⟨h.1.1.1.1, h.1.1.1.2, h.1.1.2, h.1.2⟩
theorem numL_len (n : Int) (s : Nat) (h0 : 0 ≤ n) (h1 : n ≤ 1000000000000000) (hs : s ≤ 6) : 1 ≤ (numL n s).length ∧ (numL n s).length ≤ 40 := by
  have hp := p10_pos s
  have hp6 := p10_le hs
  have d0 : 0 ≤ n / p10 s := Int.ediv_nonneg h0 (by omega)
  have d1 : n / p10 s ≤ n := Int.ediv_le_self _ h0
  have m0 : 0 ≤ n % p10 s := Int.emod_nonneg _ (by omega)
  have m1 : n % p10 s < p10 s := Int.emod_lt_of_pos _ (by omega)
  have hL1 := digitsL_len 16 (n / p10 s).toNat (by omega)
  have hL2 := digitsL_len 6 (n % p10 s).toNat (by omega)
  have hq1 := digitsL_pos (n / p10 s).toNat
  unfold numL
  split
  · simp; omega
  · simp; omega
theorem showL_len {k n s : Int} {bs : List Int} (h : termOk k bs n s = true) : 1 ≤ (showL k n s bs).length ∧ (showL k n s bs).length ≤ 64 := by
  unfold showL
  unfold termOk at h
  split at h
  · rename_i hk
    rw [if_pos hk]
    simp [nameOk] at h
    simp
    omega
  split at h
  · rename_i h0 hk
    rw [if_neg h0, if_pos hk]
    have := digitsL_len 18 n.toNat (by simp at h; omega)
    simp
    omega
  split at h
  · rename_i h0 h1 hk
    rw [if_neg h0, if_neg h1, if_pos hk]
    simp [textOk] at h
    have := esc_len bs
    simp
    omega
  split at h
  · rename_i h0 h1 h2 hk
    rw [if_neg h0, if_neg h1, if_neg h2]
    simp only [Bool.and_eq_true] at h
    have hb := numOk_bounds h.2
    split
    · have := numL_len (-n) s.toNat (by omega) (by omega) (by omega)
      simp
      omega
    · have := numL_len n s.toNat (by omega) (by omega) (by omega)
      omega
  · cases h
/-- A text that is new: none, or in a block of its own from B on. -/
def Nw (w : World) (B : Nat) (a : Option Addr) (len : Nat) (bs : List Int) : Prop := (a = none ∧ len = 0 ∧ bs = []) ∨ ∃ g, a = some ⟨g, 0, none⟩ ∧ B ≤ g ∧ OwnT w g len bs
theorem Nw.bs {w : World} {B : Nat} {a : Option Addr} {len : Nat} {bs : List Int} (h : Nw w B a len bs) : Bs w a len bs := by
  rcases h with ⟨rfl, rfl, rfl⟩ | ⟨g, rfl, _, ho⟩
  · exact ⟨rfl, by omega, by simp, .inl rfl⟩
  · exact ho.1
theorem Nw.below {w w' : World} {B : Nat} {a : Option Addr} {len : Nat} {bs : List Int} (h : Nw w B a len bs) (hb : Below w.heap.size w w') : Nw w' B a len bs := by
  rcases h with h | ⟨g, ha, hB, ho⟩
  · exact .inl h
  · exact .inr ⟨g, ha, hB, ho.below hb⟩
theorem Nw.mono {w : World} {B B' : Nat} {a : Option Addr} {len : Nat} {bs : List Int} (h : Nw w B a len bs) (hB' : B' ≤ B) : Nw w B' a len bs := by
  rcases h with h | ⟨g, ha, hB, ho⟩
  · exact .inl h
  · exact .inr ⟨g, ha, by omega, ho⟩
theorem Nw.nil (w : World) (B : Nat) : Nw w B none 0 [] := .inl ⟨rfl, rfl, rfl⟩
theorem Row8.nw {w : World} {B g n cap : Nat} {bs : List Int} (h : Row8 w B g n cap bs) (hb : Byt bs) (hl : n ≤ 1048576) : Nw w B (some ⟨g, 0, none⟩) n bs := by
  have hn := h.news
  have hge := h.ge
  have hlen := h.len
  refine .inr ⟨g, rfl, hge, ⟨hlen, hl, hb.get, .inr ⟨g, 0, rfl, h.2, fun i hi => ?_⟩⟩, h.2, fun i hi => ?_, fun i hi => ?_⟩
  · have ea : (⟨g, 0, none⟩ : Addr).add i = ⟨g, 0 + i, none⟩ := by
      by_cases h0 : i = 0 <;> simp [Addr.add, h0]
    rw [← ea]
    refine hn i _ ?_
    rw [List.getElem?_map, List.getElem?_eq_getElem (by omega)]
    rfl
  · have ea : (⟨g, 0, none⟩ : Addr).add i = ⟨g, i, none⟩ := by
      by_cases h0 : i = 0 <;> simp [Addr.add, h0]
    refine ⟨bs[i]?.getD 0, ?_⟩
    rw [← ea]
    refine hn i _ ?_
    rw [List.getElem?_map, List.getElem?_eq_getElem (by omega)]
    rfl
  · rcases h.1.2 with ⟨hv, _⟩ | ⟨g', cap', cur, hv, hB, hh, _⟩
    · cases hv
    · cases hv
      simp [World.frozen?, hh]
theorem Tx.nw {w : World} {B : Nat} {a : Option Addr} {len cap : Nat} {bs : List Int} (h : Tx w B a len cap bs) : Nw w B a len bs := by
  rcases h.2 with ⟨rfl, rfl, _⟩ | ⟨g, rfl, hB, hg, hl, hc⟩
  · exact .inl ⟨rfl, rfl, List.eq_nil_of_length_eq_zero h.1.1⟩
  · exact .inr ⟨g, rfl, hB, h.1, hg, fun i hi => (hc i (by omega)).1, fun i hi => (hc i (by omega)).2⟩

/-- What Show answers. -/
def TxRes (w : World) (bs : List Int) (e : Ending) (w' : World) : Prop := ∃ a cap, e = .returned (.slice a bs.length cap) ∧ Nw w' w.heap.size a bs.length bs ∧ Below w.heap.size w w'
theorem DigRes.tx {w : World} {bs : List Int} {e : Ending} {w' : World} (h : DigRes w bs e w') (hb : Byt bs) (hl : bs.length ≤ 1048576) : TxRes w bs e w' := by
  obtain ⟨g, cap, he, hr, hbl⟩ := h
  exact ⟨_, cap, he, hr.nw hb hl, hbl⟩
theorem TxRes.later {w w1 : World} {bs : List Int} {e : Ending} {w' : World} (h : TxRes w1 bs e w') (hb : Below w.heap.size w w1) : TxRes w bs e w' := by
  obtain ⟨a, cap, he, hr, hbl⟩ := h
  exact ⟨a, cap, he, hr.mono hb.size, bl_trans hb hbl⟩
theorem DigRes.later {w w1 : World} {bs : List Int} {e : Ending} {w' : World} (h : DigRes w1 bs e w') (hb : Below w.heap.size w w1) : DigRes w bs e w' := by
  obtain ⟨g, cap, he, hr, hbl⟩ := h
  exact ⟨g, cap, he, hr.mono hb.size, bl_trans hb hbl⟩

end Go.Proofs.YtoclingolfdfeaaGreatDoor

/- CmpB -/
namespace Go.Proofs.YtoclingolfdfeaaGreatDoor
open Go.RowKit Go.Deep

/-- What is behind the point, as six digits. -/
def restOf (n : Int) (s : Nat) : Int := n.tmod (p10 s) * p10 (6 - s)
theorem tmod_bound (n q : Int) (hq : 1 ≤ q) : -q < n.tmod q ∧ n.tmod q < q := by
  have h1 := Int.tmod_lt_of_pos n (b := q) (by omega)
  have h2 : -q < n.tmod q := by
    have := Int.lt_tmod_of_pos n (b := q) (by omega)
    omega
  exact ⟨h2, h1⟩
theorem rest_bound (n : Int) (s : Nat) (hs : s ≤ 6) : -1000000 < restOf n s ∧ restOf n s < 1000000 := by
  have h : s = 0 ∨ s = 1 ∨ s = 2 ∨ s = 3 ∨ s = 4 ∨ s = 5 ∨ s = 6 := by omega
  rcases h with rfl | rfl | rfl | rfl | rfl | rfl | rfl
  · have t := tmod_bound n 1 (by omega); simp [restOf, p10]
  · have t := tmod_bound n 10 (by omega); simp [restOf, p10]; omega
  · have t := tmod_bound n 100 (by omega); simp [restOf, p10]; omega
  · have t := tmod_bound n 1000 (by omega); simp [restOf, p10]; omega
  · have t := tmod_bound n 10000 (by omega); simp [restOf, p10]; omega
  · have t := tmod_bound n 100000 (by omega); simp [restOf, p10]; omega
  · have t := tmod_bound n 1000000 (by omega); simp [restOf, p10]; omega

theorem parts_any (n : Int) (s : Nat) (w : World) (hs : s ≤ 6) (h1 : -9223372036854775808 ≤ n) (h2 : n ≤ 9223372036854775807) :
    Calls Tryz.prog 171 #[.agg #[.int .i64 n, .int .i64 s]] w fun e w' =>
      e = .returned (.tuple #[.int .i64 (n.tdiv (p10 s)), .int .i64 (restOf n s)]) ∧ ∃ q o1, w' = (w.alloc o1).drewN q := by
  have b1 := p10_pos s
  have b2 := p10_le hs
  have b3 := p10_pos (6 - s)
  have b4 : p10 (6 - s) ≤ 1000000 := p10_le (by omega)
  have r := rest_bound n s hs
  have t := tmod_bound n (p10 s) b1
  have hc : ((6 - s : Nat) : Int) = 6 - (s : Int) := by omega
  have T := fun w => tenTo_any (6 - s) w (by omega)
  rw [hc] at T
  unfold restOf at r ⊢
  have hw : wrap64 (n.tmod (p10 s) * p10 (6 - s)) = n.tmod (p10 s) * p10 (6 - s) := IntWalk.wrap64_in _ ⟨by omega, by omega⟩
  go_enter Tryz.func171, Tryz.ntmps171
  go_wp2_with (go_at_call 63; refine (tenTo_any s _ hs).mono ?_; rintro e w1 ⟨rfl, rfl⟩)
  go_quiet ((go_at_call 63; refine Calls.quiet_of_same (T _)))
  go_wp2
  go_ret2
  exact ⟨rfl, _, _, rfl⟩

/-- Two numbers: what is whole first, then the rest. -/
def cmpN (n : Int) (s : Nat) (n' : Int) (s' : Nat) : Int := orI (cmpI (n.tdiv (p10 s)) (n'.tdiv (p10 s'))) (cmpI (restOf n s) (restOf n' s'))

end Go.Proofs.YtoclingolfdfeaaGreatDoor

/- CmpC -/
namespace Go.Proofs.YtoclingolfdfeaaGreatDoor
open Go.RowKit Go.Deep

/-- Two texts by their bytes. -/
def cmpB (xs ys : List Int) : Int := Lib.compareBytes (Lib.bytesOf xs) (Lib.bytesOf ys)

theorem run_loadBytes {P : Program} (w : World) (b : Nat) : ∀ (n off : Nat) (bs : List Int) (acc : ByteArray), bs.length = n → (∀ i, i < n → w.cell? ⟨b, off + i, none⟩ = some (.int .u8 (bs[i]?.getD 0))) →
    (Extern.Bytes.loadBytes ⟨b, off, none⟩ n acc).run P w = .ok (bs.foldl (fun r n => r.push (UInt8.ofNat n.toNat)) acc) w
  | 0, off, bs, acc, hl, _ => by
    rw [List.eq_nil_of_length_eq_zero hl]
    rfl
  | n + 1, off, [], acc, hl, _ => by simp at hl
  | n + 1, off, x :: bs, acc, hl, hc => by
    have h0 : w.cell? ⟨b, off, none⟩ = some (.int .u8 x) := by simpa using hc 0 (by omega)
    have ih := run_loadBytes (P := P) w b n (off + 1) bs (acc.push (UInt8.ofNat x.toNat)) (by simpa using hl) (fun i hi => by
      have := hc (i + 1) (by omega)
      simp at this
      rw [show off + 1 + i = off + (i + 1) by omega]
      exact this)
    have ea : (⟨b, off, none⟩ : Addr).add 1 = ⟨b, off + 1, none⟩ := by simp [Addr.add]
    have hld : (load ⟨b, off, none⟩).run P w = .ok (.int .u8 x) w := by simp [go_sem, h0]
    unfold Extern.Bytes.loadBytes
    simp only [Sem.run_bind, hld, Result.andThen]
    rw [ea]
    exact ih

theorem Bs.bytes {P : Program} {w : World} {a : Option Addr} {len cap : Nat} {bs : List Int} (h : Bs w a len bs) : (Extern.Bytes.bytesOf (.slice a len cap)).run P w = .ok (strOfNums bs) w := by
  obtain ⟨hl, _, _, h4⟩ := h
  rcases h4 with h4 | ⟨b, off, rfl, _, hc⟩
  · subst h4
    have e : bs = [] := List.eq_nil_of_length_eq_zero hl
    subst e
    cases a with
    | none => rfl
    | some x => rfl
  · have := run_loadBytes (P := P) w b len off bs .empty hl hc
    show (Extern.Bytes.loadBytes ⟨b, off, none⟩ len .empty).run P w = _
    rw [this, foldl_push_bytes]
    simp [strOfNums, ByteArray.empty, ByteArray.emptyWithCapacity]
    rfl

theorem bytealg_any (a a' : Option Addr) (len cap len' cap' : Nat) (bs bs' : List Int) (w : World) (hB : Bs w a len bs) (hB' : Bs w a' len' bs') :
    (callFunc 170 #[.slice a len cap, .slice a' len' cap']).run Tryz.prog w = .ok (.value (.int .i64 (cmpB bs bs'))) w := by
  rw [run_callFunc_extern Tryz.func170 (by kernel_rfl) (by kernel_rfl) (by kernel_rfl) (e := Extern.BytealgCompare.compare) (by kernel_rfl)]
  have : (Extern.BytealgCompare.compare #[.slice a len cap, .slice a' len' cap']).run Tryz.prog w = .ok (.int .i64 (cmpB bs bs')) w := by
    change Sem.run Tryz.prog (do pure (goInt (Extern.BytealgCompare.cmp (← Extern.Bytes.bytesOf (.slice a len cap)) (← Extern.Bytes.bytesOf (.slice a' len' cap'))))) w = _
    simp only [Sem.run_bind, hB.bytes, hB'.bytes, Sem.run_pure, Result.andThen]
    rw [Lib.cmp_eq]
    rfl
  rw [this]
  rfl

theorem bytesCompare_any (a a' : Option Addr) (len cap len' cap' : Nat) (bs bs' : List Int) (w : World) (hB : Bs w a len bs) (hB' : Bs w a' len' bs') :
    Calls Tryz.prog 154 #[.slice a len cap, .slice a' len' cap'] w fun e w' => e = .returned (.int .i64 (cmpB bs bs')) ∧ w' = w := by
  have hx := bytealg_any a a' len cap len' cap' bs bs' w hB hB'
  clear hB hB'
  go_enter Tryz.func154, Tryz.ntmps154
  go_wp2
  go_ret
  exact ⟨rfl, rfl⟩

end Go.Proofs.YtoclingolfdfeaaGreatDoor

/- CmpD -/
namespace Go.Proofs.YtoclingolfdfeaaGreatDoor
open Go.RowKit Go.Deep

theorem cell_keep {w w' : World} (hb : Below w.heap.size w w') {p : Addr} {v : Value} (h : w.cell? p = some v) (hp : p.block < w.heap.size) : w'.cell? p = some v := (hb.cell hp).trans h

theorem At4.at (w : World) (b : Nat) (v0 v1 v2 v3 : Value) (t : TypeId) (e : b = w.heap.size) : At4 (w.alloc (.cells #[v0, v1, v2, v3] t)) b v0 v1 v2 v3 := by
  subst e; exact At4.new w v0 v1 v2 v3 t

/-- Two terms that may be: by kind, by text, by number: the first that tells. -/
def cmp3 (x y z : Int) : Int := orI x (orI y z)

theorem termOk_scale {k n s : Int} {bs : List Int} (h : termOk k bs n s = true) : 0 ≤ s ∧ s ≤ 6 := by
  unfold termOk at h
  split at h
  · simp at h; omega
  split at h
  · simp at h; omega
  split at h
  · simp at h; omega
  split at h
  · simp [numOk] at h; omega
  · simp at h

/-- Whatever two terms: what may not be first. -/
def cmpT (ok ok' : Bool) (c : Int) : Int := if ok then (if ok' then c else 1) else (if ok' then -1 else 0)

end Go.Proofs.YtoclingolfdfeaaGreatDoor
