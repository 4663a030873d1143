/- Texts put together: ShwA ShwB ShwC -/
import Derived.Test.YtganfiajhokkmaaGreatDoorMk02
import Derived.Test.YtganfiajhokkmaaGreatDoorMk03
import Derived.Deep.AppendLies
/- ShwA -/
namespace Go.Proofs.YtganfiajhokkmaaGreatDoor
open Go.RowKit Go.Deep
set_option maxRecDepth 100000

/-- The digits of n, as bytes, at most f and one of them. -/
def digF : Nat → Nat → List Int
  | 0, n => [48 + (n : Int) % 10]
  | f + 1, n => if n < 10 then [48 + (n : Int)] else digF f (n / 10) ++ [48 + (n : Int) % 10]
/-- The digits of n, as bytes. -/
def digitsL (n : Nat) : List Int := digF n n
theorem digF_small {n : Nat} (h : n < 10) : ∀ f, digF f n = [48 + (n : Int)]
  | 0 => by
    have : (n : Int) % 10 = n := by omega
    simp [digF, this]
  | f + 1 => by simp [digF, h]
theorem digF_like : ∀ (f g n : Nat), n ≤ f → n ≤ g → digF f n = digF g n
  | 0, g, n, h, _ => by rw [digF_small (by omega), digF_small (by omega)]
  | f + 1, 0, n, _, h => by rw [digF_small (by omega), digF_small (by omega)]
  | f + 1, g + 1, n, h1, h2 => by
    by_cases h : n < 10
    · rw [digF_small h, digF_small h]
    · simp only [digF, h, if_false]
      rw [digF_like f g (n / 10) (by omega) (by omega)]
theorem digitsL_small {n : Nat} (h : n < 10) : digitsL n = [48 + (n : Int)] := digF_small h n
theorem digitsL_step {n : Nat} (h : ¬ n < 10) : digitsL n = digitsL (n / 10) ++ [48 + (n : Int) % 10] := by
  obtain ⟨m, rfl⟩ : ∃ m, n = m + 1 := ⟨n - 1, by omega⟩
  unfold digitsL
  rw [digF_like ((m + 1) / 10) m ((m + 1) / 10) (by omega) (by omega)]
  simp only [digF, h, if_false]
theorem digitsL_len (k : Nat) : ∀ n : Nat, n < 10 ^ (k + 1) → (digitsL n).length ≤ k + 1 := by
  induction k with
  | zero => intro n h; rw [digitsL_small (by omega)]; simp
  | succ k ih =>
    intro n h
    by_cases h0 : n < 10
    · rw [digitsL_small h0]; simp
    · rw [digitsL_step h0]
      have := ih (n / 10) (by rw [Nat.pow_succ] at h; omega)
      simp
      omega

/-- A row of bytes of the call's own, in block g, that may grow. -/
def Row8 (w : World) (B g n cap : Nat) (bs : List Int) : Prop := w.ownsRow B 5 1 (.slice (some ⟨g, 0, none⟩) n cap) n (bs.map (Value.int .u8)) ∧ g < w.heap.size
/-- A row of bytes that is new. -/
theorem Row8.new (w : World) (x : Int) : Row8 (w.alloc (.cells #[.int .u8 x] 5)) w.heap.size w.heap.size 1 1 [x] := by
  refine ⟨⟨rfl, .inr ⟨w.heap.size, 1, #[.int .u8 x], rfl, Nat.le_refl _, by simp [World.alloc, -World.alloc_eq], by omega, by unfold maxLen; omega, rfl, rfl⟩⟩, by simp⟩
theorem Row8.below {w w' : World} {B g n cap : Nat} {bs : List Int} (h : Row8 w B g n cap bs) (hb : Below w.heap.size w w') : Row8 w' B g n cap bs := by
  obtain ⟨⟨h1, h2⟩, hl⟩ := h
  refine ⟨⟨h1, ?_⟩, Nat.lt_of_lt_of_le hl hb.size⟩
  rcases h2 with ⟨h2, _⟩ | ⟨g', cap', cur, hv, hB, hh, r⟩
  · cases h2
  · refine .inr ⟨g', cap', cur, hv, hB, ?_, r⟩
    cases hv
    rw [hb.block g hl]
    exact hh
theorem Row8.mono {w : World} {B B' g n cap : Nat} {bs : List Int} (h : Row8 w B g n cap bs) (hB : B' ≤ B) : Row8 w B' g n cap bs := by
  obtain ⟨⟨h1, h2⟩, hl⟩ := h
  refine ⟨⟨h1, ?_⟩, hl⟩
  rcases h2 with ⟨h2, _⟩ | ⟨g', cap', cur, hv, hb, r⟩
  · cases h2
  · exact .inr ⟨g', cap', cur, hv, Nat.le_trans hB hb, r⟩
/-- What growing leaves of what was there. -/
theorem grown_below {w w' : World} {B g : Nat} (h : w.grownBy w' (some g)) (hB : B ≤ g) (hw : B ≤ w.heap.size) : Below B w w' :=
  ⟨h.os, h.tape, h.output, h.size, fun b hb => h.block b (by omega) (by intro e; cases e; omega)⟩

/-- What digits answer. -/
def DigRes (w : World) (bs : List Int) (e : Ending) (w' : World) : Prop := ∃ g cap, e = .returned (.slice (some ⟨g, 0, none⟩) bs.length cap) ∧ Row8 w' w.heap.size g bs.length cap bs ∧ Below w.heap.size w w'
theorem l1digits_any : ∀ (n : Nat) (w : World), n ≤ 9223372036854775807 → Calls Tryz.prog 52 #[.int .i64 n] w fun e w' => DigRes w (digitsL n) e w' := by
  intro n
  induction n using Nat.strongRecOn with
  | ind n ih =>
    intro w hn
    obtain ⟨i0, hi0, hzz⟩ := Option.map_eq_some_iff.1 Tryz.info5
    simp only [Prod.mk.injEq] at hzz
    obtain ⟨hi2, hi1, hi3⟩ := hzz
    by_cases h : n < 10
    · rw [digitsL_small h]
      have hw : IntKind.u8.wrap (48 + (n : Int)) = 48 + (n : Int) := by rw [IntKind.wrap_u8]; omega
      clear ih hi0 hi1 hi2 hi3
      go_enter Tryz.func52, Tryz.ntmps52
      go_wp2
      go_ret
      exact ⟨w.heap.size, 1, rfl, Row8.new w _, bl_a _⟩
    · have IH : Calls Tryz.prog 52 #[.int .i64 ((n : Int) / 10)] w fun e w' => DigRes w (digitsL (n / 10)) e w' := by
        have := ih (n / 10) (by omega) w (by omega)
        rwa [Int.natCast_ediv] at this
      clear ih
      rw [digitsL_step h]
      have hw : IntKind.u8.wrap (48 + ((n : Int) % 10)) = 48 + (n : Int) % 10 := by rw [IntKind.wrap_u8]; omega
      have hL := digitsL_len 19 (n / 10) (by omega)
      generalize digitsL (n / 10) = ds at *
      go_enter Tryz.func52, Tryz.ntmps52
      go_wp2_with fail
      refine IH.mono ?_
      rintro e w1 ⟨g, cap, rfl, hr, hb⟩
      have hr2 := hr.below (bl_a (.cells #[.int .u8 (48 + (n : Int) % 10)] 5))
      have hb2 := bl_trans hb (bl_a (.cells #[.int .u8 (48 + (n : Int) % 10)] 5))
      have hnw : ∀ j u, [Value.int .u8 (48 + (n : Int) % 10)][j]? = some u → (w1.alloc (.cells #[.int .u8 (48 + (n : Int) % 10)] 5)).cell? ((⟨w1.heap.size, 0, none⟩ : Addr).add j) = some u := by
        intro j u hj
        have hj0 : j = 0 := by
          cases j with
          | zero => rfl
          | succ j => simp at hj
        subst hj0
        simp at hj
        subst hj
        simp [Addr.add, go_sem]
      have HO : Hid (Row8 (w1.alloc (.cells #[.int .u8 (48 + (n : Int) % 10)] 5)) w.heap.size g ds.length cap ds) := hr2
      have HN : Hid (∀ j u, [Value.int .u8 (48 + (n : Int) % 10)][j]? = some u → (w1.alloc (.cells #[.int .u8 (48 + (n : Int) % 10)] 5)).cell? ((⟨w1.heap.size, 0, none⟩ : Addr).add j) = some u) := hnw
      have hgB : w.heap.size ≤ g := by
        rcases hr.1.2 with ⟨h, _⟩ | ⟨g', cap', cur, hv, hB, _⟩
        · cases h
        · cases hv; exact hB
      have hs := hb2.size
      clear hr hr2 hnw hb IH
      go_wp2_with (refine wpList_append_lies _ rfl (.tmp 11) (.tmp 16) 27 rfl w.heap.size 5 i0 (.int .u8 0) 1 1 Tryz.underlying27 hi0 hi2 hi1 hi3 rfl (by omega) (.slice (some ⟨g, 0, none⟩) ds.length cap) ds.length (ds.map (Value.int .u8)) rfl HO.out.1 ⟨w1.heap.size, 0, none⟩ 1 1 [.int .u8 (48 + (n : Int) % 10)] rfl rfl HN.out (by simp [Value.oneCell']) (by omega) (by unfold maxLen; omega) (by omega) hs _ rfl ?_; intro g' cap' w3 hown hgr hgg hlt)
      go_ret
      refine ⟨g', cap', by simp, ⟨?_, hlt⟩, hb2.trans (grown_below hgr hgB hs)⟩
      simpa using hown
end Go.Proofs.YtganfiajhokkmaaGreatDoor

/- ShwB -/
namespace Go.Proofs.YtganfiajhokkmaaGreatDoor
open Go.RowKit Go.Deep
set_option maxRecDepth 100000

theorem one_news (w : World) (x : Int) : ∀ j u, [Value.int .u8 x][j]? = some u → (w.alloc (.cells #[.int .u8 x] 5)).cell? ((⟨w.heap.size, 0, none⟩ : Addr).add j) = some u := by
  intro j u hj
  have hj0 : j = 0 := by
    cases j with
    | zero => rfl
    | succ j => simp at hj
  subst hj0
  simp at hj
  subst hj
  simp [Addr.add, go_sem]
theorem bs_news {w : World} {b off len : Nat} {bs : List Int} (h : Bs w (some ⟨b, off, none⟩) len bs) : ∀ j u, (bs.map (Value.int .u8))[j]? = some u → w.cell? ((⟨b, off, none⟩ : Addr).add j) = some u := by
  intro j u hj
  obtain ⟨h1, _, _, h4⟩ := h
  have hjl : j < bs.length := by
    apply Classical.byContradiction
    intro hn
    rw [List.getElem?_eq_none (by simp; omega)] at hj
    cases hj
  obtain ⟨b', off', ha, _, hc⟩ := h4.resolve_left (by omega)
  cases ha
  have ea : (⟨b, off, none⟩ : Addr).add j = ⟨b, off + j, none⟩ := by
    by_cases h0 : j = 0 <;> simp [Addr.add, h0]
  rw [ea, hc j (by omega), ← hj]
  simp [List.getElem?_eq_getElem hjl]
theorem Row8.ge {w : World} {B g n cap : Nat} {bs : List Int} (h : Row8 w B g n cap bs) : B ≤ g := by
  rcases h.1.2 with ⟨h, _⟩ | ⟨g', cap', cur, hv, hB, _⟩
  · cases h
  · cases hv; exact hB
theorem oneCell_map (bs : List Int) : ∀ u ∈ bs.map (Value.int .u8), u.oneCell' = true := by
  intro u hu
  obtain ⟨x, _, rfl⟩ := List.mem_map.1 hu
  rfl
/-- A row that has grown. -/
theorem Row8.grown {w3 : World} {B g n cap : Nat} {us bs : List Int} {vs : List Value} (h : w3.ownsRow B 5 1 (.slice (some ⟨g, 0, none⟩) n cap) n (us.map (Value.int .u8) ++ vs)) (hv : vs = bs.map (Value.int .u8)) (hl : g < w3.heap.size) : Row8 w3 B g n cap (us ++ bs) := by
  subst hv
  rw [← List.map_append] at h
  exact ⟨h, hl⟩

theorem l1show_name (n s : Int) (b off len cap : Nat) (bs : List Int) (w : World) (hB : Bs w (some ⟨b, off, none⟩) len bs) (h1 : 1 ≤ len) :
    Calls Tryz.prog 38 #[.agg #[.int .i64 0, .slice (some ⟨b, off, none⟩) len cap, .int .i64 n, .int .i64 s]] w fun e w' => DigRes w (60 :: (bs ++ [62])) e w' := by
  obtain ⟨i0, hi0, hzz⟩ := Option.map_eq_some_iff.1 Tryz.info5
  simp only [Prod.mk.injEq] at hzz
  obtain ⟨hi2, hi1, hi3⟩ := hzz
  have hlen := hB.1
  have h20 := hB.2.1
  have R1 : ∀ o, Row8 ((w.alloc o).alloc (.cells #[.int .u8 60] 5)) w.heap.size (w.heap.size + 1) 1 1 [60] := fun o => by
    have := (Row8.new (w.alloc o) 60).mono (B' := w.heap.size) (by simp)
    simpa using this
  have HN : Hid (∀ o o', ∀ j u, (bs.map (Value.int .u8))[j]? = some u → ((w.alloc o).alloc o').cell? ((⟨b, off, none⟩ : Addr).add j) = some u) := fun o o' => bs_news (hB.below (bl_alloc (bl_a _) _))
  have HR : Hid (∀ o, Row8 ((w.alloc o).alloc (.cells #[.int .u8 60] 5)) w.heap.size (w.heap.size + 1) 1 1 [60]) := R1
  clear R1 hB
  go_enter Tryz.func38, Tryz.ntmps38
  go_wp2_with (first
    | (refine wpList_append_lies _ rfl (.tmp 9) (.tmp 11) 27 rfl w.heap.size 5 i0 (.int .u8 0) 1 1 Tryz.underlying27 hi0 hi2 hi1 hi3 rfl (by omega) (.slice (some ⟨w.heap.size + 1, 0, none⟩) 1 1) 1 [.int .u8 60] rfl (HR.out _).1 ⟨b, off, none⟩ len _ (bs.map (Value.int .u8)) rfl (by simp [hlen]) (HN.out _ _) (oneCell_map bs) (by omega) (by unfold maxLen; omega) (by omega) (bl_alloc (bl_a _) _).size _ rfl ?_; intro g3 cap3 w3 hown3 hgr3 hgg3 hlt3; have hr3 := Row8.grown (us := [60]) hown3 rfl hlt3; have hb3 : Below w.heap.size w w3 := (bl_alloc (bl_a _) _).trans (grown_below (g := w.heap.size + 1) hgr3 (Nat.le_succ _) (bl_alloc (bl_a _) _).size); clear hown3 hgr3 hgg3; have HR3 : Hid (Row8 (w3.alloc (.cells #[.int .u8 62] 5)) w.heap.size g3 (1 + len) cap3 ([60] ++ bs)) := hr3.below (bl_a _); have HB3 : Hid (Below w.heap.size w (w3.alloc (.cells #[.int .u8 62] 5))) := bl_alloc hb3 _; clear hr3 hb3)
    | (refine wpList_append_lies _ rfl (.tmp 12) (.tmp 13) 27 rfl w.heap.size 5 i0 (.int .u8 0) 1 1 Tryz.underlying27 hi0 hi2 hi1 hi3 rfl (by omega) (.slice (some ⟨g3, 0, none⟩) (1 + len) cap3) (1 + len) (([60] ++ bs).map (Value.int .u8)) rfl HR3.out.1 ⟨w3.heap.size, 0, none⟩ 1 _ [.int .u8 62] rfl rfl (one_news w3 62) (by simp [Value.oneCell']) (by omega) (by unfold maxLen; omega) (by omega) HB3.out.size _ rfl ?_; intro g4 cap4 w4 hown4 hgr4 hgg4 hlt4; have hr4 := Row8.grown (us := [60] ++ bs) (bs := [62]) hown4 rfl hlt4; have hb4 : Below w.heap.size w w4 := HB3.out.trans (grown_below (g := g3) hgr4 HR3.out.ge HB3.out.size); clear hown4 hgr4 hgg4))
  go_ret
  have el : (60 :: (bs ++ [62]) : List Int).length = 1 + len + 1 := by simp [hlen]; omega
  exact ⟨g4, cap4, by rw [el]; rfl, by rw [el]; exact hr4, hb4⟩

theorem Row8.news {w : World} {B g n cap : Nat} {bs : List Int} (h : Row8 w B g n cap bs) : ∀ j u, (bs.map (Value.int .u8))[j]? = some u → w.cell? ((⟨g, 0, none⟩ : Addr).add j) = some u := by
  intro j u hj
  obtain ⟨⟨h1, h2⟩, hl⟩ := h
  rcases h2 with ⟨h2, _⟩ | ⟨g', cap', cur, hv, hB, hh, hle, _, hsz, htk⟩
  · cases h2
  · cases hv
    have ea : (⟨g, 0, none⟩ : Addr).add j = ⟨g, 0 + j, none⟩ := by
      by_cases h0 : j = 0 <;> simp [Addr.add, h0]
    rw [ea, ← hj, ← htk, List.getElem?_take]
    have hjl : j < bs.length := by
      apply Classical.byContradiction
      intro hn
      rw [List.getElem?_eq_none (by simp; omega)] at hj
      cases hj
    have hbl : bs.length = n := by simpa using h1
    rw [if_pos (by omega)]
    simp [World.cell?, hh]
theorem digitsL_pos (n : Nat) : 1 ≤ (digitsL n).length := by
  by_cases h : n < 10
  · rw [digitsL_small h]; simp
  · rw [digitsL_step h]; simp

end Go.Proofs.YtganfiajhokkmaaGreatDoor

/- ShwC -/
namespace Go.Proofs.YtganfiajhokkmaaGreatDoor
open Go.RowKit Go.Deep
set_option maxRecDepth 100000

/-- A text's bytes as they are written. -/
def esc (bs : List Int) : List Int := bs.flatMap fun b => if b = 34 ∨ b = 92 then [92, b] else [b]
theorem esc_snoc (bs : List Int) (b : Int) : esc (bs ++ [b]) = esc bs ++ (if b = 34 ∨ b = 92 then [92, b] else [b]) := by simp [esc]
theorem esc_len (bs : List Int) : (esc bs).length ≤ 2 * bs.length := by
  induction bs with
  | nil => simp [esc]
  | cons b bs ih =>
    have : esc (b :: bs) = (if b = 34 ∨ b = 92 then [92, b] else [b]) ++ esc bs := rfl
    rw [this]
    split <;> simp <;> omega
theorem take_snoc (bs : List Int) (k : Nat) (h : k < bs.length) : bs.take (k + 1) = bs.take k ++ [bs[k]?.getD 0] := by
  rw [List.take_add_one, List.getElem?_eq_getElem h]
  rfl

set_option maxHeartbeats 1000000 in
theorem quoted_any (a : Option Addr) (len cap : Nat) (bs : List Int) (w : World) (hB : Bs w a len bs) :
    Calls Tryz.prog 67 #[.slice a len cap] w fun e w' => DigRes w (34 :: (esc bs ++ [34])) e w' := by
  obtain ⟨i0, hi0, hzz⟩ := Option.map_eq_some_iff.1 Tryz.info5
  simp only [Prod.mk.injEq] at hzz
  obtain ⟨hi2, hi1, hi3⟩ := hzz
  have hlen := hB.1
  have h20 := hB.2.1
  have HR0 : Hid (Row8 (w.alloc (.cells #[.int .u8 34] 5)) w.heap.size w.heap.size 1 1 [34]) := Row8.new w 34
  have HBs : Hid (Bs w a len bs) := hB
  have HL : Hid (bs.length = len) := hlen
  clear hB hlen
  go_enter Tryz.func67, Tryz.ntmps67
  go_wp2_with fail
  go_loopw [3, 9] (fun x i wr => ∃ (k g n cap' : Nat), k ≤ len ∧ i = .int .i64 k ∧ x = .slice (some ⟨g, 0, none⟩) n cap' ∧ n ≤ 1 + 2 * k ∧ Hid (Row8 wr w.heap.size g n cap' (34 :: esc (bs.take k))) ∧ Hid (Below w.heap.size w wr))
    (fun _ i _ => len - (intOf i).toNat)
  case atStart => exact ⟨0, w.heap.size, 1, 1, Nat.zero_le _, rfl, rfl, by omega, HR0, bl_a _⟩
  case round =>
    obtain ⟨k, g, n, cap', hk, rfl, rfl, hn, HR, HB⟩ := hrel
    clear HR0
    by_cases hlk : k < len
    · obtain ⟨b, off, rfl, hbl, hc⟩ := HBs.out.2.2.2.resolve_left (by omega)
      have hx := (HB.out.cell (p := ⟨b, off + k, none⟩) hbl).trans (hc k hlk)
      have hv := HBs.out.2.2.1 k
      have HE : Hid (esc (bs.take (k + 1)) = esc (bs.take k) ++ (if bs[k]?.getD 0 = 34 ∨ bs[k]?.getD 0 = 92 then [92, bs[k]?.getD 0] else [bs[k]?.getD 0])) := by
        show _ = _
        rw [take_snoc bs k (by have := HL.out; omega), esc_snoc]
      clear hc
      generalize bs[k]?.getD 0 = v at *
      have HR1 : ∀ y : Int, Hid (Row8 (wr.alloc (.cells #[.int .u8 y] 5)) w.heap.size g n cap' (34 :: esc (bs.take k))) := fun y => HR.out.below (bl_a _)
      have HB1 : ∀ y : Int, Hid (Below w.heap.size w (wr.alloc (.cells #[.int .u8 y] 5))) := fun y => bl_alloc HB.out _
      by_cases hq : v = 34 ∨ v = 92
      · have HE' : Hid (esc (bs.take (k + 1)) = esc (bs.take k) ++ [92, v]) := by show _ = _; rw [HE.out, if_pos hq]
        clear HE
        have hor : ((v == 34) || (v == 92)) = true := by simpa using hq
        cases h34 : (v == 34)
        · have h92 : (v == 92) = true := by simpa [h34] using hor
          clear hq hor
          go_wp2_with (first
            | (refine wpList_append_lies _ rfl (.tmp 19) (.tmp 20) 27 rfl w.heap.size 5 i0 (.int .u8 0) 1 1 Tryz.underlying27 hi0 hi2 hi1 hi3 rfl (by omega) (.slice (some ⟨g, 0, none⟩) n cap') n ((34 :: esc (bs.take k)).map (Value.int .u8)) rfl (HR1 92).out.1 ⟨wr.heap.size, 0, none⟩ 1 _ [.int .u8 92] rfl rfl (one_news wr 92) (by simp [Value.oneCell']) (by omega) (by unfold maxLen; omega) (by omega) (HB1 92).out.size _ rfl ?_; intro g3 cap3 w3 hown3 hgr3 hgg3 hlt3; have hr3 : Row8 w3 w.heap.size g3 (n + 1) cap3 ((34 :: esc (bs.take k)) ++ [92]) := Row8.grown (us := 34 :: esc (bs.take k)) (bs := [92]) hown3 rfl hlt3; have hb3 : Below w.heap.size w w3 := (HB1 92).out.trans (grown_below (g := g) hgr3 HR.out.ge (HB1 92).out.size); clear hown3 hgr3 hgg3; have HR3 : Hid (Row8 (w3.alloc (.cells #[.int .u8 v] 5)) w.heap.size g3 (n + 1) cap3 ((34 :: esc (bs.take k)) ++ [92])) := hr3.below (bl_a _); have HB3 : Hid (Below w.heap.size w (w3.alloc (.cells #[.int .u8 v] 5))) := bl_alloc hb3 _; clear hr3 hb3)
            | (refine wpList_append_lies _ rfl (.tmp 22) (.tmp 24) 27 rfl w.heap.size 5 i0 (.int .u8 0) 1 1 Tryz.underlying27 hi0 hi2 hi1 hi3 rfl (by omega) (.slice (some ⟨g3, 0, none⟩) (n + 1) cap3) (n + 1) (((34 :: esc (bs.take k)) ++ [92]).map (Value.int .u8)) rfl HR3.out.1 ⟨w3.heap.size, 0, none⟩ 1 _ [.int .u8 v] rfl rfl (one_news w3 v) (by simp [Value.oneCell']) (by omega) (by unfold maxLen; omega) (by omega) HB3.out.size _ rfl ?_; intro g4 cap4 w4 hown4 hgr4 hgg4 hlt4; have HR4 : Hid (Row8 w4 w.heap.size g4 (n + 1 + 1) cap4 (((34 :: esc (bs.take k)) ++ [92]) ++ [v])) := Row8.grown (us := (34 :: esc (bs.take k)) ++ [92]) (bs := [v]) hown4 rfl hlt4; have HB4 : Hid (Below w.heap.size w w4) := HB3.out.trans (grown_below (g := g3) hgr4 HR3.out.ge HB3.out.size); clear hown4 hgr4 hgg4))
          go_roundw
          case rel =>
            refine ⟨k + 1, g4, n + 1 + 1, cap4, by omega, by go_num, rfl, by omega, ?_, HB4⟩
            have h := HR4.out
            show Row8 _ _ _ _ _ _
            rw [HE'.out]
            simpa using h
          case measure => simp [intOf]; omega
        · clear hq hor
          go_wp2_with (first
            | (refine wpList_append_lies _ rfl (.tmp 19) (.tmp 20) 27 rfl w.heap.size 5 i0 (.int .u8 0) 1 1 Tryz.underlying27 hi0 hi2 hi1 hi3 rfl (by omega) (.slice (some ⟨g, 0, none⟩) n cap') n ((34 :: esc (bs.take k)).map (Value.int .u8)) rfl (HR1 92).out.1 ⟨wr.heap.size, 0, none⟩ 1 _ [.int .u8 92] rfl rfl (one_news wr 92) (by simp [Value.oneCell']) (by omega) (by unfold maxLen; omega) (by omega) (HB1 92).out.size _ rfl ?_; intro g3 cap3 w3 hown3 hgr3 hgg3 hlt3; have hr3 : Row8 w3 w.heap.size g3 (n + 1) cap3 ((34 :: esc (bs.take k)) ++ [92]) := Row8.grown (us := 34 :: esc (bs.take k)) (bs := [92]) hown3 rfl hlt3; have hb3 : Below w.heap.size w w3 := (HB1 92).out.trans (grown_below (g := g) hgr3 HR.out.ge (HB1 92).out.size); clear hown3 hgr3 hgg3; have HR3 : Hid (Row8 (w3.alloc (.cells #[.int .u8 v] 5)) w.heap.size g3 (n + 1) cap3 ((34 :: esc (bs.take k)) ++ [92])) := hr3.below (bl_a _); have HB3 : Hid (Below w.heap.size w (w3.alloc (.cells #[.int .u8 v] 5))) := bl_alloc hb3 _; clear hr3 hb3)
            | (refine wpList_append_lies _ rfl (.tmp 22) (.tmp 24) 27 rfl w.heap.size 5 i0 (.int .u8 0) 1 1 Tryz.underlying27 hi0 hi2 hi1 hi3 rfl (by omega) (.slice (some ⟨g3, 0, none⟩) (n + 1) cap3) (n + 1) (((34 :: esc (bs.take k)) ++ [92]).map (Value.int .u8)) rfl HR3.out.1 ⟨w3.heap.size, 0, none⟩ 1 _ [.int .u8 v] rfl rfl (one_news w3 v) (by simp [Value.oneCell']) (by omega) (by unfold maxLen; omega) (by omega) HB3.out.size _ rfl ?_; intro g4 cap4 w4 hown4 hgr4 hgg4 hlt4; have HR4 : Hid (Row8 w4 w.heap.size g4 (n + 1 + 1) cap4 (((34 :: esc (bs.take k)) ++ [92]) ++ [v])) := Row8.grown (us := (34 :: esc (bs.take k)) ++ [92]) (bs := [v]) hown4 rfl hlt4; have HB4 : Hid (Below w.heap.size w w4) := HB3.out.trans (grown_below (g := g3) hgr4 HR3.out.ge HB3.out.size); clear hown4 hgr4 hgg4))
          go_roundw
          case rel =>
            refine ⟨k + 1, g4, n + 1 + 1, cap4, by omega, by go_num, rfl, by omega, ?_, HB4⟩
            have h := HR4.out
            show Row8 _ _ _ _ _ _
            rw [HE'.out]
            simpa using h
          case measure => simp [intOf]; omega
      · have HE' : Hid (esc (bs.take (k + 1)) = esc (bs.take k) ++ [v]) := by show _ = _; rw [HE.out, if_neg hq]
        have h34 : (v == 34) = false := by simp; omega
        have h92 : (v == 92) = false := by simp; omega
        clear HE hq
        go_wp2_with (refine wpList_append_lies _ rfl (.tmp 22) (.tmp 24) 27 rfl w.heap.size 5 i0 (.int .u8 0) 1 1 Tryz.underlying27 hi0 hi2 hi1 hi3 rfl (by omega) (.slice (some ⟨g, 0, none⟩) n cap') n ((34 :: esc (bs.take k)).map (Value.int .u8)) rfl (HR1 v).out.1 ⟨wr.heap.size, 0, none⟩ 1 _ [.int .u8 v] rfl rfl (one_news wr v) (by simp [Value.oneCell']) (by omega) (by unfold maxLen; omega) (by omega) (HB1 v).out.size _ rfl ?_; intro g4 cap4 w4 hown4 hgr4 hgg4 hlt4; have HR4 : Hid (Row8 w4 w.heap.size g4 (n + 1) cap4 ((34 :: esc (bs.take k)) ++ [v])) := Row8.grown (us := 34 :: esc (bs.take k)) (bs := [v]) hown4 rfl hlt4; have HB4 : Hid (Below w.heap.size w w4) := (HB1 v).out.trans (grown_below (g := g) hgr4 HR.out.ge (HB1 v).out.size); clear hown4 hgr4 hgg4)
        go_roundw
        case rel =>
          refine ⟨k + 1, g4, n + 1, cap4, by omega, by go_num, rfl, by omega, ?_, HB4⟩
          have := HR4.out
          show Row8 _ _ _ _ _ _
          rw [HE'.out]
          exact this
        case measure => simp [intOf]; omega
    · obtain rfl : k = len := by omega
      have HR' : Hid (Row8 wr w.heap.size g n cap' (34 :: esc bs)) := by
        have := HR.out
        rwa [List.take_of_length_le (by have := HL.out; omega)] at this
      have HR1 : Hid (Row8 (wr.alloc (.cells #[.int .u8 34] 5)) w.heap.size g n cap' (34 :: esc bs)) := HR'.out.below (bl_a _)
      have HB1 : Hid (Below w.heap.size w (wr.alloc (.cells #[.int .u8 34] 5))) := bl_alloc HB.out _
      have HNL : Hid (n = (34 :: esc bs : List Int).length) := by
        have := HR'.out.1.1
        show _ = _
        simpa using this.symm
      clear HR
      go_wp2_with (refine wpList_append_lies _ rfl (.tmp 27) (.tmp 28) 27 rfl w.heap.size 5 i0 (.int .u8 0) 1 1 Tryz.underlying27 hi0 hi2 hi1 hi3 rfl (by omega) (.slice (some ⟨g, 0, none⟩) n cap') n ((34 :: esc bs).map (Value.int .u8)) rfl HR1.out.1 ⟨wr.heap.size, 0, none⟩ 1 _ [.int .u8 34] rfl rfl (one_news wr 34) (by simp [Value.oneCell']) (by omega) (by unfold maxLen; omega) (by omega) HB1.out.size _ rfl ?_; intro g4 cap4 w4 hown4 hgr4 hgg4 hlt4; have hr4 := Row8.grown (us := 34 :: esc bs) (bs := [34]) hown4 rfl hlt4; have hb4 : Below w.heap.size w w4 := HB1.out.trans (grown_below (g := g) hgr4 HR'.out.ge HB1.out.size); clear hown4 hgr4 hgg4)
      go_ret
      have el : (34 :: (esc bs ++ [34]) : List Int).length = n + 1 := by rw [HNL.out]; simp
      exact ⟨g4, cap4, by rw [el]; rfl, by rw [el]; exact hr4, hb4⟩
end Go.Proofs.YtganfiajhokkmaaGreatDoor
