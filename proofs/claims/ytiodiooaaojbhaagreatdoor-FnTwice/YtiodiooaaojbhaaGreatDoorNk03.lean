/- Texts put together: ShwC ReQ MrkA OwnA TriA -/
import Derived.Test.YtiodiooaaojbhaaGreatDoorNk02
import Derived.Test.YtiodiooaaojbhaaGreatDoorNk01
/- ShwC -/
namespace Go.Proofs.YtiodiooaaojbhaaGreatDoor
open Go.RowKit Go.Deep
set_option maxRecDepth 100000

/-- A text's bytes as they are written. -/
def esc (bs : List Int) : List Int := bs.flatMap fun b => if b = 34 ∨ b = 92 then [92, b] else [b]
theorem esc_snoc (bs : List Int) (b : Int) : esc (bs ++ [b]) = esc bs ++ (if b = 34 ∨ b = 92 then [92, b] else [b]) := by simp [esc]
theorem esc_len (bs : List Int) : (esc bs).length ≤ 2 * bs.length := by
  induction bs with
  | nil => simp [esc]
  | cons b bs ih =>
    have : esc (b :: bs) = (if b = 34 ∨ b = 92 then [92, b] else [b]) ++ esc bs := rfl
    rw [this]
    split <;> simp <;> omega
theorem take_snoc (bs : List Int) (k : Nat) (h : k < bs.length) : bs.take (k + 1) = bs.take k ++ [bs[k]?.getD 0] := by
  rw [List.take_add_one, List.getElem?_eq_getElem h]
  rfl

set_option maxHeartbeats 1000000 in
theorem quoted_any (a : Option Addr) (len cap : Nat) (bs : List Int) (w : World) (hB : Bs w a len bs) :
    Calls Tryz.prog 116 #[.slice a len cap] w fun e w' => DigRes w (34 :: (esc bs ++ [34])) e w' := by
  obtain ⟨i0, hi0, hzz⟩ := Option.map_eq_some_iff.1 Tryz.info5
  simp only [Prod.mk.injEq] at hzz
  obtain ⟨hi2, hi1, hi3⟩ := hzz
  have hlen := hB.1
  have h20 := hB.2.1
  have HR0 : Hid (Row8 (w.alloc (.cells #[.int .u8 34] 5)) w.heap.size w.heap.size 1 1 [34]) := Row8.new w 34
  have HBs : Hid (Bs w a len bs) := hB
  have HL : Hid (bs.length = len) := hlen
  clear hB hlen
  go_enter Tryz.func116, Tryz.ntmps116
  go_wp2_with fail
  go_loopw [3, 9] (fun x i wr => ∃ (k g n cap' : Nat), k ≤ len ∧ i = .int .i64 k ∧ x = .slice (some ⟨g, 0, none⟩) n cap' ∧ n ≤ 1 + 2 * k ∧ Hid (Row8 wr w.heap.size g n cap' (34 :: esc (bs.take k))) ∧ Hid (Below w.heap.size w wr))
    (fun _ i _ => len - (intOf i).toNat)
  case atStart => exact ⟨0, w.heap.size, 1, 1, Nat.zero_le _, rfl, rfl, by omega, HR0, bl_a _⟩
  case round =>
    obtain ⟨k, g, n, cap', hk, rfl, rfl, hn, HR, HB⟩ := hrel
    clear HR0
    by_cases hlk : k < len
    · obtain ⟨b, off, rfl, hbl, hc⟩ := HBs.out.2.2.2.resolve_left (by omega)
      have hx := (HB.out.cell (p := ⟨b, off + k, none⟩) hbl).trans (hc k hlk)
      have hv := HBs.out.2.2.1 k
      have HE : Hid (esc (bs.take (k + 1)) = esc (bs.take k) ++ (if bs[k]?.getD 0 = 34 ∨ bs[k]?.getD 0 = 92 then [92, bs[k]?.getD 0] else [bs[k]?.getD 0])) := by
        show _ = _
        rw [take_snoc bs k (by have := HL.out; omega), esc_snoc]
      clear hc
      generalize bs[k]?.getD 0 = v at *
      have HR1 : ∀ y : Int, Hid (Row8 (wr.alloc (.cells #[.int .u8 y] 5)) w.heap.size g n cap' (34 :: esc (bs.take k))) := fun y => HR.out.below (bl_a _)
      have HB1 : ∀ y : Int, Hid (Below w.heap.size w (wr.alloc (.cells #[.int .u8 y] 5))) := fun y => bl_alloc HB.out _
      by_cases hq : v = 34 ∨ v = 92
      · have HE' : Hid (esc (bs.take (k + 1)) = esc (bs.take k) ++ [92, v]) := by show _ = _; rw [HE.out, if_pos hq]
        clear HE
        have hor : ((v == 34) || (v == 92)) = true := by simpa using hq
        cases h34 : (v == 34)
        · have h92 : (v == 92) = true := by simpa [h34] using hor
          clear hq hor
          go_wp2_with (first
            | (refine wpList_append_lies _ rfl (.tmp 19) (.tmp 20) 22 rfl w.heap.size 5 i0 (.int .u8 0) 1 1 Tryz.underlying22 hi0 hi2 hi1 hi3 rfl (by omega) (.slice (some ⟨g, 0, none⟩) n cap') n ((34 :: esc (bs.take k)).map (Value.int .u8)) rfl (HR1 92).out.1 ⟨wr.heap.size, 0, none⟩ 1 _ [.int .u8 92] rfl rfl (one_news wr 92) (by simp [Value.oneCell']) (by omega) (by unfold maxLen; omega) (by omega) (HB1 92).out.size _ rfl ?_; intro g3 cap3 w3 hown3 hgr3 hgg3 hlt3; have hr3 : Row8 w3 w.heap.size g3 (n + 1) cap3 ((34 :: esc (bs.take k)) ++ [92]) := Row8.grown (us := 34 :: esc (bs.take k)) (bs := [92]) hown3 rfl hlt3; have hb3 : Below w.heap.size w w3 := (HB1 92).out.trans (grown_below (g := g) hgr3 HR.out.ge (HB1 92).out.size); clear hown3 hgr3 hgg3; have HR3 : Hid (Row8 (w3.alloc (.cells #[.int .u8 v] 5)) w.heap.size g3 (n + 1) cap3 ((34 :: esc (bs.take k)) ++ [92])) := hr3.below (bl_a _); have HB3 : Hid (Below w.heap.size w (w3.alloc (.cells #[.int .u8 v] 5))) := bl_alloc hb3 _; clear hr3 hb3)
            | (refine wpList_append_lies _ rfl (.tmp 22) (.tmp 24) 22 rfl w.heap.size 5 i0 (.int .u8 0) 1 1 Tryz.underlying22 hi0 hi2 hi1 hi3 rfl (by omega) (.slice (some ⟨g3, 0, none⟩) (n + 1) cap3) (n + 1) (((34 :: esc (bs.take k)) ++ [92]).map (Value.int .u8)) rfl HR3.out.1 ⟨w3.heap.size, 0, none⟩ 1 _ [.int .u8 v] rfl rfl (one_news w3 v) (by simp [Value.oneCell']) (by omega) (by unfold maxLen; omega) (by omega) HB3.out.size _ rfl ?_; intro g4 cap4 w4 hown4 hgr4 hgg4 hlt4; have HR4 : Hid (Row8 w4 w.heap.size g4 (n + 1 + 1) cap4 (((34 :: esc (bs.take k)) ++ [92]) ++ [v])) := Row8.grown (us := (34 :: esc (bs.take k)) ++ [92]) (bs := [v]) hown4 rfl hlt4; have HB4 : Hid (Below w.heap.size w w4) := HB3.out.trans (grown_below (g := g3) hgr4 HR3.out.ge HB3.out.size); clear hown4 hgr4 hgg4))
          go_roundw
          case rel =>
            refine ⟨k + 1, g4, n + 1 + 1, cap4, by omega, by go_num, rfl, by omega, ?_, HB4⟩
            have h := HR4.out
            show Row8 _ _ _ _ _ _
            rw [HE'.out]
            simpa using h
          case measure => simp [intOf]; omega
        · clear hq hor
          go_wp2_with (first
            | (refine wpList_append_lies _ rfl (.tmp 19) (.tmp 20) 22 rfl w.heap.size 5 i0 (.int .u8 0) 1 1 Tryz.underlying22 hi0 hi2 hi1 hi3 rfl (by omega) (.slice (some ⟨g, 0, none⟩) n cap') n ((34 :: esc (bs.take k)).map (Value.int .u8)) rfl (HR1 92).out.1 ⟨wr.heap.size, 0, none⟩ 1 _ [.int .u8 92] rfl rfl (one_news wr 92) (by simp [Value.oneCell']) (by omega) (by unfold maxLen; omega) (by omega) (HB1 92).out.size _ rfl ?_; intro g3 cap3 w3 hown3 hgr3 hgg3 hlt3; have hr3 : Row8 w3 w.heap.size g3 (n + 1) cap3 ((34 :: esc (bs.take k)) ++ [92]) := Row8.grown (us := 34 :: esc (bs.take k)) (bs := [92]) hown3 rfl hlt3; have hb3 : Below w.heap.size w w3 := (HB1 92).out.trans (grown_below (g := g) hgr3 HR.out.ge (HB1 92).out.size); clear hown3 hgr3 hgg3; have HR3 : Hid (Row8 (w3.alloc (.cells #[.int .u8 v] 5)) w.heap.size g3 (n + 1) cap3 ((34 :: esc (bs.take k)) ++ [92])) := hr3.below (bl_a _); have HB3 : Hid (Below w.heap.size w (w3.alloc (.cells #[.int .u8 v] 5))) := bl_alloc hb3 _; clear hr3 hb3)
            | (refine wpList_append_lies _ rfl (.tmp 22) (.tmp 24) 22 rfl w.heap.size 5 i0 (.int .u8 0) 1 1 Tryz.underlying22 hi0 hi2 hi1 hi3 rfl (by omega) (.slice (some ⟨g3, 0, none⟩) (n + 1) cap3) (n + 1) (((34 :: esc (bs.take k)) ++ [92]).map (Value.int .u8)) rfl HR3.out.1 ⟨w3.heap.size, 0, none⟩ 1 _ [.int .u8 v] rfl rfl (one_news w3 v) (by simp [Value.oneCell']) (by omega) (by unfold maxLen; omega) (by omega) HB3.out.size _ rfl ?_; intro g4 cap4 w4 hown4 hgr4 hgg4 hlt4; have HR4 : Hid (Row8 w4 w.heap.size g4 (n + 1 + 1) cap4 (((34 :: esc (bs.take k)) ++ [92]) ++ [v])) := Row8.grown (us := (34 :: esc (bs.take k)) ++ [92]) (bs := [v]) hown4 rfl hlt4; have HB4 : Hid (Below w.heap.size w w4) := HB3.out.trans (grown_below (g := g3) hgr4 HR3.out.ge HB3.out.size); clear hown4 hgr4 hgg4))
          go_roundw
          case rel =>
            refine ⟨k + 1, g4, n + 1 + 1, cap4, by omega, by go_num, rfl, by omega, ?_, HB4⟩
            have h := HR4.out
            show Row8 _ _ _ _ _ _
            rw [HE'.out]
            simpa using h
          case measure => simp [intOf]; omega
      · have HE' : Hid (esc (bs.take (k + 1)) = esc (bs.take k) ++ [v]) := by show _ = _; rw [HE.out, if_neg hq]
        have h34 : (v == 34) = false := by simp; omega
        have h92 : (v == 92) = false := by simp; omega
        clear HE hq
        go_wp2_with (refine wpList_append_lies _ rfl (.tmp 22) (.tmp 24) 22 rfl w.heap.size 5 i0 (.int .u8 0) 1 1 Tryz.underlying22 hi0 hi2 hi1 hi3 rfl (by omega) (.slice (some ⟨g, 0, none⟩) n cap') n ((34 :: esc (bs.take k)).map (Value.int .u8)) rfl (HR1 v).out.1 ⟨wr.heap.size, 0, none⟩ 1 _ [.int .u8 v] rfl rfl (one_news wr v) (by simp [Value.oneCell']) (by omega) (by unfold maxLen; omega) (by omega) (HB1 v).out.size _ rfl ?_; intro g4 cap4 w4 hown4 hgr4 hgg4 hlt4; have HR4 : Hid (Row8 w4 w.heap.size g4 (n + 1) cap4 ((34 :: esc (bs.take k)) ++ [v])) := Row8.grown (us := 34 :: esc (bs.take k)) (bs := [v]) hown4 rfl hlt4; have HB4 : Hid (Below w.heap.size w w4) := (HB1 v).out.trans (grown_below (g := g) hgr4 HR.out.ge (HB1 v).out.size); clear hown4 hgr4 hgg4)
        go_roundw
        case rel =>
          refine ⟨k + 1, g4, n + 1, cap4, by omega, by go_num, rfl, by omega, ?_, HB4⟩
          have := HR4.out
          show Row8 _ _ _ _ _ _
          rw [HE'.out]
          exact this
        case measure => simp [intOf]; omega
    · obtain rfl : k = len := by omega
      have HR' : Hid (Row8 wr w.heap.size g n cap' (34 :: esc bs)) := by
        have := HR.out
        rwa [List.take_of_length_le (by have := HL.out; omega)] at this
      have HR1 : Hid (Row8 (wr.alloc (.cells #[.int .u8 34] 5)) w.heap.size g n cap' (34 :: esc bs)) := HR'.out.below (bl_a _)
      have HB1 : Hid (Below w.heap.size w (wr.alloc (.cells #[.int .u8 34] 5))) := bl_alloc HB.out _
      have HNL : Hid (n = (34 :: esc bs : List Int).length) := by
        have := HR'.out.1.1
        show _ = _
        simpa using this.symm
      clear HR
      go_wp2_with (refine wpList_append_lies _ rfl (.tmp 27) (.tmp 28) 22 rfl w.heap.size 5 i0 (.int .u8 0) 1 1 Tryz.underlying22 hi0 hi2 hi1 hi3 rfl (by omega) (.slice (some ⟨g, 0, none⟩) n cap') n ((34 :: esc bs).map (Value.int .u8)) rfl HR1.out.1 ⟨wr.heap.size, 0, none⟩ 1 _ [.int .u8 34] rfl rfl (one_news wr 34) (by simp [Value.oneCell']) (by omega) (by unfold maxLen; omega) (by omega) HB1.out.size _ rfl ?_; intro g4 cap4 w4 hown4 hgr4 hgg4 hlt4; have hr4 := Row8.grown (us := 34 :: esc bs) (bs := [34]) hown4 rfl hlt4; have hb4 : Below w.heap.size w w4 := HB1.out.trans (grown_below (g := g) hgr4 HR'.out.ge HB1.out.size); clear hown4 hgr4 hgg4)
      go_ret
      have el : (34 :: (esc bs ++ [34]) : List Int).length = n + 1 := by rw [HNL.out]; simp
      exact ⟨g4, cap4, by rw [el]; rfl, by rw [el]; exact hr4, hb4⟩
end Go.Proofs.YtiodiooaaojbhaaGreatDoor

/- ReQ -/
namespace Go.Proofs.YtiodiooaaojbhaaGreatDoor
open Go.RowKit Go.Deep
set_option maxRecDepth 100000

/-- A text of the call's own that may be appended to. -/
def Tz (w : World) (B : Nat) (a : Option Addr) (len cap : Nat) (bs : List Int) : Prop :=
  Bs w a len bs ∧ ((a = none ∧ len = 0 ∧ cap = 0) ∨ ∃ g, a = some ⟨g, 0, none⟩ ∧ B ≤ g ∧ g < w.heap.size ∧ len ≤ cap ∧ ∀ j, j < cap → (w.cell? ⟨g, j, none⟩).isSome = true ∧ w.frozen? ⟨g, j, none⟩ = false)
theorem Tx.tz {w : World} {B : Nat} {a : Option Addr} {len cap : Nat} {bs : List Int} (h : Tx w B a len cap bs) : Tz w B a len cap bs := by
  refine ⟨h.1, h.2.imp id ?_⟩
  rintro ⟨g, ha, hB, hg, hl, hc⟩
  refine ⟨g, ha, hB, hg, hl, fun j hj => ⟨?_, (hc j hj).2⟩⟩
  obtain ⟨v, hv⟩ := (hc j hj).1
  rw [hv]
  rfl
theorem Tz.below {w w' : World} {B : Nat} {a : Option Addr} {len cap : Nat} {bs : List Int} (h : Tz w B a len cap bs) (hb : Below w.heap.size w w') : Tz w' B a len cap bs := by
  refine ⟨h.1.below hb, ?_⟩
  rcases h.2 with h2 | ⟨g, ha, hB, hg, hl, hc⟩
  · exact .inl h2
  · refine .inr ⟨g, ha, hB, Nat.lt_of_lt_of_le hg hb.size, hl, fun j hj => ?_⟩
    rw [hb.cell (p := ⟨g, j, none⟩) hg, hb.frozen (p := ⟨g, j, none⟩) hg]
    exact hc j hj
theorem Tz.mono {w : World} {B B' : Nat} {a : Option Addr} {len cap : Nat} {bs : List Int} (h : Tz w B a len cap bs) (hB : B' ≤ B) : Tz w B' a len cap bs := by
  refine ⟨h.1, h.2.imp id ?_⟩
  rintro ⟨g, ha, hB', r⟩
  exact ⟨g, ha, by omega, r⟩
theorem bs_keep {w w' : World} {a : Option Addr} {len : Nat} {bs : List Int} (h : Bs w a len bs) (hs : w.heap.size ≤ w'.heap.size) (hk : ∀ p, a = some p → w'.heap[p.block]? = w.heap[p.block]?) : Bs w' a len bs := by
  obtain ⟨h1, h2, h3, h4⟩ := h
  refine ⟨h1, h2, h3, ?_⟩
  rcases h4 with h4 | ⟨b, off, ha, hlt, hc⟩
  · exact .inl h4
  · refine .inr ⟨b, off, ha, Nat.lt_of_lt_of_le hlt hs, fun i hi => ?_⟩
    rw [World.cell?_of_block (w := w) (a := ⟨b, off + i, none⟩) (hk ⟨b, off, none⟩ ha)]
    exact hc i hi
theorem Tz.past {w w' : World} {B c : Nat} {a : Option Addr} {len cap : Nat} {bs : List Int} (h : Tz w B a len cap bs) (hp : Past c w w') (hc : c < B) : Tz w' B a len cap bs := by
  rcases h.2 with ⟨rfl, rfl, rfl⟩ | ⟨g, rfl, hB, hg, hl, hcs⟩
  · exact ⟨⟨h.1.1, h.1.2.1, h.1.2.2.1, .inl rfl⟩, .inl ⟨rfl, rfl, rfl⟩⟩
  · refine ⟨bs_keep h.1 hp.size (fun p hp' => ?_), .inr ⟨g, rfl, hB, Nat.lt_of_lt_of_le hg hp.size, hl, fun j hj => ?_⟩⟩
    · cases hp'
      exact hp.block g hg (by omega)
    · rw [hp.cell (p := ⟨g, j, none⟩) hg (by show g ≠ c; omega), hp.frozen (p := ⟨g, j, none⟩) hg (by show g ≠ c; omega)]
      exact hcs j hj
/-- append of bytes to such a text, its run known in both ways. -/
theorem wp_app8r {o : Oper} {a : Act} {K : Act → World → Prop} {Q : Exit → Act → World → Prop} {w : World} (s x : Operand) (tx : TypeId)
    (ho : o.op = .call { callee := .builtin .append, args := #[s, x], argTypes := #[22, tx] })
    (B n cap : Nat) (a0 : Option Addr) (us : List Int) (hs : a.eval s = .slice a0 n cap) (HT : Tz w B a0 n cap us)
    (xv : Value) (m : Nat) (bs : List Int) (hx : a.eval x = xv) (hml : bs.length = m) (h0 : a0 = none → 0 < m)
    (hrR : ∀ g, a0 = some ⟨g, 0, none⟩ → n + m ≤ cap → (Builtin.append_ #[22, tx] o.type #[.slice (some ⟨g, 0, none⟩) n cap, xv]).run Tryz.prog w = .ok (.slice (some ⟨g, 0, none⟩) (n + m) cap) (w.setCells g n (bs.map (Value.int .u8))))
    (hrG : cap < n + m → (Builtin.append_ #[22, tx] o.type #[.slice a0 n cap, xv]).run Tryz.prog w = .ok (.slice (some ⟨w.heap.size, 0, none⟩) (n + m) (grownCap w (n + m) cap 5)) (w.drew.alloc (.cells ((us.map (Value.int .u8) ++ bs.map (Value.int .u8)).toArray ++ Builtin.zeroCells (Value.int IntKind.u8 0).cells (grownCap w (n + m) cap 5 - (n + m))) 5)))
    (HY : Byt (us ++ bs)) (hle : n + m ≤ 1000000) (hB : B ≤ w.heap.size)
    (h : ∀ g' cap' w', Hid (Tz w' B (some ⟨g', 0, none⟩) (n + m) cap' (us ++ bs)) → Hid (Below B w w') → K (a.put o.dst (.slice (some ⟨g', 0, none⟩) (n + m) cap')) w') :
    Oper.wp Tryz.prog o a w K Q := by
  obtain ⟨hBs, hh⟩ := HT
  have hul : us.length = n := hBs.1
  by_cases hroom : n + m ≤ cap
  · rcases hh with ⟨e0, e1, e2⟩ | ⟨g, hg', hBg, hgl, hnc, hcells⟩
    · have := h0 e0
      omega
    subst hg'
    have hr := hrR g rfl hroom
    have hold : ∀ i, i < n → w.cell? ⟨g, i, none⟩ = some (.int .u8 (us[i]?.getD 0)) := fun i hi => by
      rcases hBs.2.2.2 with h0 | ⟨b, off, e, _, hc⟩
      · omega
      · cases e
        have := hc i hi
        rwa [Nat.zero_add] at this
    have hsome : ∀ j, j < (bs.map (Value.int .u8)).length → (w.cell? ⟨g, n + j, none⟩).isSome = true := fun j hj => by
      rw [List.length_map] at hj
      exact (hcells (n + j) (by omega)).1
    have hin := World.cell?_setCells_in g (bs.map (Value.int .u8)) n w hsome
    have hout := World.cell?_setCells_out g (bs.map (Value.int .u8)) n w
    have hfz := World.frozen?_setCells g (bs.map (Value.int .u8)) n w
    have hbl := below_setCells (B := B) hBg (bs.map (Value.int .u8)) n w (Below.refl B w)
    have hcell : ∀ i, i < n + m → (w.setCells g n (bs.map (Value.int .u8))).cell? ⟨g, i, none⟩ = some (.int .u8 ((us ++ bs)[i]?.getD 0)) := fun i hi => by
      by_cases hin' : i < n
      · rw [hout ⟨g, i, none⟩ (fun _ _ => .inl hin'), hold i hin', List.getElem?_append_left (by omega)]
      · obtain ⟨j, rfl⟩ : ∃ j, i = n + j := ⟨i - n, by omega⟩
        rw [hin j (by rw [List.length_map]; omega), List.getElem?_append_right (by omega), hul, Nat.add_sub_cancel_left, List.getElem?_eq_getElem (by omega)]
        simp
    unfold Oper.wp execOp
    simp only [ho, resolve, invoke, builtin, Sem.run_bind, Sem.run_pure, Result.andThen_ok, List.map_toArray, List.map_cons, List.map_nil, hs, hx, hr]
    refine (h g cap _ ⟨bs_of_cells (by rw [List.length_append]; omega) (by omega) HY (Nat.lt_of_lt_of_le hgl hbl.size) hcell, .inr ⟨g, rfl, hBg, Nat.lt_of_lt_of_le hgl hbl.size, hroom, fun j hj => ⟨?_, (hfz _).trans (hcells j hj).2⟩⟩⟩ hbl)
    by_cases hjm : j < n + m
    · rw [hcell j hjm]
      rfl
    · rw [hout ⟨g, j, none⟩ (fun _ _ => .inr (by rw [List.length_map]; show n + bs.length ≤ j; omega))]
      exact (hcells j hj).1
  · have hr := hrG (by omega)
    have hge := grownCap_ge w (n + m) cap 5
    unfold Oper.wp execOp
    simp only [ho, resolve, invoke, builtin, Sem.run_bind, Sem.run_pure, Result.andThen_ok, List.map_toArray, List.map_cons, List.map_nil, hs, hx, hr]
    obtain ⟨C, hC⟩ : ∃ C, grownCap w (n + m) cap 5 = C := ⟨_, rfl⟩
    rw [hC] at hge ⊢
    have hat : ∀ j, (w.drew.alloc (.cells ((us.map (Value.int .u8) ++ bs.map (Value.int .u8)).toArray ++ Builtin.zeroCells (Value.int IntKind.u8 0).cells (C - (n + m))) 5)).cell? ⟨w.heap.size, j, none⟩ = ((us.map (Value.int .u8) ++ bs.map (Value.int .u8)).toArray ++ Builtin.zeroCells (Value.int IntKind.u8 0).cells (C - (n + m)))[j]? := fun j => by
      simp [go_sem]
    have hbl : Below B w (w.drew.alloc (.cells ((us.map (Value.int .u8) ++ bs.map (Value.int .u8)).toArray ++ Builtin.zeroCells (Value.int IntKind.u8 0).cells (C - (n + m))) 5)) := (Below.drew (Below.refl B w)).alloc hB _
    have hcell : ∀ i, i < n + m → (w.drew.alloc (.cells ((us.map (Value.int .u8) ++ bs.map (Value.int .u8)).toArray ++ Builtin.zeroCells (Value.int IntKind.u8 0).cells (C - (n + m))) 5)).cell? ⟨w.heap.size, i, none⟩ = some (.int .u8 ((us ++ bs)[i]?.getD 0)) := fun i hi => by
      rw [hat, Array.getElem?_append_left (by simp; omega), ← List.map_append, List.getElem?_toArray, List.getElem?_map, List.getElem?_eq_getElem (by rw [List.length_append]; omega)]
      simp
    refine (h w.heap.size C _ ⟨bs_of_cells (by rw [List.length_append]; omega) (by omega) HY (by simp) hcell, .inr ⟨w.heap.size, rfl, hB, by simp, hge, fun j hj => ⟨?_, by simp [go_sem]⟩⟩⟩ hbl)
    rw [hat, Array.getElem?_eq_getElem (by simp [Builtin.zeroCells, Value.cells]; omega)]
    rfl
/-- The cells of such a text, behind a draw. -/
theorem tz_first {w : World} {B : Nat} {a0 : Option Addr} {n cap : Nat} {us : List Int} (h : Tz w B a0 n cap us) (z : Nat) (hz : z = 1) : (Builtin.firstCells z n (.slice a0 n cap)).run Tryz.prog w.drew = .ok (us.map (Value.int .u8)).toArray w.drew := by
  subst hz
  rcases h.2 with ⟨rfl, rfl, rfl⟩ | ⟨g, rfl, _⟩
  · have : us = [] := List.eq_nil_of_length_eq_zero h.1.1
    subst this
    exact run_firstCells_none w.drew 1 0 0 0
  · have hul := h.1.1
    refine run_firstCells_some w.drew 1 n ⟨g, 0, none⟩ n cap _ (by rw [List.length_map]; omega) fun j v hv => ?_
    have hj : j < n := by have := (List.getElem?_eq_some_iff.1 hv).1; simpa [hul] using this
    have e : w.drew.cell? ((⟨g, 0, none⟩ : Addr).add j) = w.cell? ⟨g, j, none⟩ := by
      rw [Addr.add_lit, Nat.zero_add]
      rfl
    rw [e]
    rcases h.1.2.2.2 with h0 | ⟨b, off, e, _, hc⟩
    · omega
    · cases e
      have hx := hc j hj
      rw [Nat.zero_add] at hx
      rw [hx]
      rw [List.getElem?_map, List.getElem?_eq_getElem (by omega)] at hv
      rw [List.getElem?_eq_getElem (by omega)]
      simpa using hv
/-- append of what a source yields. -/
theorem wp_app8z {o : Oper} {a : Act} {K : Act → World → Prop} {Q : Exit → Act → World → Prop} {w : World} (s x : Operand) (tx : TypeId)
    (ho : o.op = .call { callee := .builtin .append, args := #[s, x], argTypes := #[22, tx] })
    (B n cap : Nat) (a0 : Option Addr) (us : List Int) (hs : a.eval s = .slice a0 n cap) (HT : Hid (Tz w B a0 n cap us))
    (xv : Value) (m : Nat) (bs : List Int) (hx : a.eval x = xv) (h0 : a0 = none → 0 < m) (HS : Hid (Src Tryz.prog 1 tx xv m (bs.map (Value.int .u8)) w)) (HY : Hid (Byt (us ++ bs))) (N : Nat) (hN : n + m = N) (zs : List Int) (hz : us ++ bs = zs) (hle : N ≤ 1000000) (hB : B ≤ w.heap.size)
    (h : ∀ g' cap' w', Hid (Tz w' B (some ⟨g', 0, none⟩) N cap' zs) → Hid (Below B w w') → K (a.put o.dst (.slice (some ⟨g', 0, none⟩) N cap')) w') :
    Oper.wp Tryz.prog o a w K Q := by
  obtain ⟨i0, hi0, hzz⟩ := Option.map_eq_some_iff.1 Tryz.info5
  simp only [Prod.mk.injEq] at hzz
  obtain ⟨hi2, hi1, hi3⟩ := hzz
  subst hN hz
  have hsrc : Src Tryz.prog i0.size tx xv m (bs.map (Value.int .u8)) w := by rw [hi1]; exact HS.out
  have hml : bs.length = m := by have := HS.out.newsLen; simpa using this
  refine wp_app8r s x tx ho B n cap a0 us hs HT.out xv m bs hx hml h0 (fun g hg hroom => ?_) (fun hno => ?_) HY.out hle hB h
  · subst hg
    rcases HT.out.2 with ⟨e0, _⟩ | ⟨g', hg', hBg, hgl, hnc, hcells⟩
    · cases e0
    cases hg'
    have hr := run_append_room_src (P := Tryz.prog) w 22 tx o.type 5 i0 Tryz.underlying22 hi0 g 0 n cap xv m (bs.map (Value.int .u8)) hsrc hroom (fun j hj => by
      rw [List.length_map] at hj
      rw [hi1, Nat.zero_add, Nat.mul_one]
      exact (hcells (n + j) (by omega)).1) (fun j hj => by
      rw [List.length_map] at hj
      rw [hi1, Nat.zero_add, Nat.mul_one]
      exact (hcells (n + j) (by omega)).2)
    rwa [hi1, Nat.zero_add, Nat.mul_one] at hr
  · exact run_append_grow_src (P := Tryz.prog) w 22 tx o.type 5 i0 (.int .u8 0) Tryz.underlying22 hi0 hi2 a0 n cap (us.map (Value.int .u8)) (tz_first HT.out _ hi1) xv m (bs.map (Value.int .u8)) hsrc (by omega) (by omega) (growslice_fits (by omega) (by rw [hi3]; omega))
theorem step_app8z {ops : Array Oper} {o : Oper} {a : Act} {K : Act → World → Prop} {Q : Exit → Act → World → Prop} {w : World} {E : Prop} (hgd : o.guard = none) (s x : Operand) (tx : TypeId)
    (ho : o.op = .call { callee := .builtin .append, args := #[s, x], argTypes := #[22, tx] })
    (B n cap : Nat) (a0 : Option Addr) (us : List Int) (hs : a.eval s = .slice a0 n cap) (HT : Hid (Tz w B a0 n cap us))
    (xv : Value) (m : Nat) (bs : List Int) (hx : a.eval x = xv) (h0 : a0 = none → 0 < m) (HS : Hid (Src Tryz.prog 1 tx xv m (bs.map (Value.int .u8)) w)) (HY : Hid (Byt (us ++ bs))) (N : Nat) (hN : n + m = N) (zs : List Int) (hz : us ++ bs = zs) (hle : N ≤ 1000000) (hB : B ≤ w.heap.size)
    (h : ∀ g' cap' w', Hid (Tz w' B (some ⟨g', 0, none⟩) N cap' zs) → Hid (Below B w w') → K (a.put o.dst (.slice (some ⟨g', 0, none⟩) N cap')) w') :
    if Region.wanted o (yielded ops a.tmps) = true then Oper.wp Tryz.prog o a w K Q else E := by
  have hw : Region.wanted o (yielded ops a.tmps) = true := by simp [Region.wanted, hgd]
  rw [if_pos hw]
  exact wp_app8z s x tx ho B n cap a0 us hs HT xv m bs hx h0 HS HY N hN zs hz hle hB h
theorem list_app8z {ops : Array Oper} {rest : List Oper} {o : Oper} {a : Act} {Q : Exit → Act → World → Prop} {w : World} (hgd : o.guard = none) (s x : Operand) (tx : TypeId)
    (ho : o.op = .call { callee := .builtin .append, args := #[s, x], argTypes := #[22, tx] })
    (B n cap : Nat) (a0 : Option Addr) (us : List Int) (hs : a.eval s = .slice a0 n cap) (HT : Hid (Tz w B a0 n cap us))
    (xv : Value) (m : Nat) (bs : List Int) (hx : a.eval x = xv) (h0 : a0 = none → 0 < m) (HS : Hid (Src Tryz.prog 1 tx xv m (bs.map (Value.int .u8)) w)) (HY : Hid (Byt (us ++ bs))) (N : Nat) (hN : n + m = N) (zs : List Int) (hz : us ++ bs = zs) (hle : N ≤ 1000000) (hB : B ≤ w.heap.size)
    (h : ∀ g' cap' w', Hid (Tz w' B (some ⟨g', 0, none⟩) N cap' zs) → Hid (Below B w w') → wpList Tryz.prog ops Q rest (a.put o.dst (.slice (some ⟨g', 0, none⟩) N cap')) w') :
    wpList Tryz.prog ops Q (o :: rest) a w :=
  wpList_plain hgd fun _ hK => wp_app8z s x tx ho B n cap a0 us hs HT xv m bs hx h0 HS HY N hN zs hz hle hB fun g' cap' w' h1 h2 => hK _ _ (h g' cap' w' h1 h2)
/-- A text as what is appended, wherever it lies. -/
theorem src_bs {w : World} {a : Option Addr} {n c : Nat} {bs : List Int} (h : Bs w a n bs) : Src Tryz.prog 1 22 (.slice a n c) n (bs.map (Value.int .u8)) w := by
  cases a with
  | some p =>
    refine Src.ofSlice w Tryz.underlying22 p n c _ (by rw [List.length_map, h.1, Nat.mul_one]) (fun j u hu => ?_) (oneCell_map bs)
    have hj : j < n := by have := (List.getElem?_eq_some_iff.1 hu).1; simpa [h.1] using this
    rcases h.2.2.2 with h0 | ⟨b, off, e, _, hc⟩
    · omega
    · cases e
      have e2 : (⟨b, off, none⟩ : Addr).add j = ⟨b, off + j, none⟩ := Addr.add_lit _ _ _
      rw [e2, hc j hj]
      rw [List.getElem?_map] at hu
      have hjl : j < bs.length := by rw [h.1]; exact hj
      rw [List.getElem?_eq_getElem hjl] at hu ⊢
      simpa using hu
  | none =>
    have h0 : n = 0 := by
      rcases h.2.2.2 with h0 | ⟨b, off, e, _, hc⟩
      · exact h0
      · cases e
    subst h0
    have hb : bs = [] := List.eq_nil_of_length_eq_zero h.1
    subst hb
    exact Src.ofNil w Tryz.underlying22 c
/-- The cells that append lays for so many noughts. -/
theorem zero_cells (m : Nat) : Builtin.zeroCells (Value.int IntKind.u8 0).cells m = ((List.replicate m (0 : Int)).map (Value.int .u8)).toArray := by
  apply Array.ext
  · simp [Builtin.zeroCells, Value.cells]
  · intro i h1 h2
    simp [Builtin.zeroCells, Value.cells, Nat.mod_one]
/-- append of noughts. -/
theorem list_app8n (m : Nat) (hm0 : 0 < m) (hm : m ≤ 100000) {ops : Array Oper} {rest : List Oper} {o : Oper} {a : Act} {Q : Exit → Act → World → Prop} {w : World} (hgd : o.guard = none) (s x : Operand)
    (ho : o.op = .call { callee := .builtin .append, args := #[s, x], argTypes := #[22, 3] })
    (B n cap : Nat) (a0 : Option Addr) (us : List Int) (hs : a.eval s = .slice a0 n cap) (HT : Hid (Tz w B a0 n cap us))
    (hx : a.eval x = .int .i64 m) (hle : n ≤ 100000) (hB : B ≤ w.heap.size)
    (h : ∀ g' cap' w', Hid (Tz w' B (some ⟨g', 0, none⟩) (n + m) cap' (us ++ List.replicate m (0 : Int))) → Hid (Below B w w') → wpList Tryz.prog ops Q rest (a.put o.dst (.slice (some ⟨g', 0, none⟩) (n + m) cap')) w') :
    wpList Tryz.prog ops Q (o :: rest) a w := by
  obtain ⟨i0, hi0, hzz⟩ := Option.map_eq_some_iff.1 Tryz.info5
  simp only [Prod.mk.injEq] at hzz
  obtain ⟨hi2, hi1, hi3⟩ := hzz
  have hti : Tryz.prog.underlying 3 = some (.int .i64) := Tryz.underlying3
  have hneg : ¬ ((m : Int) < 0) := by omega
  have hbig : ¬ (281474976710656 < (m : Int)) := by omega
  have hm00 : ¬ (m = 0) := by omega
  have hwr : IntKind.i64.wrap (m : Int) = m := by rw [IntKind.wrap_i64]; omega
  have hone : ∀ u ∈ (List.replicate m (0 : Int)).map (Value.int .u8), u.oneCell' = true := oneCell_map _
  have hY : Byt (us ++ List.replicate m (0 : Int)) := by
    intro y hy
    rcases List.mem_append.1 hy with hy | hy
    · obtain ⟨i, hi, rfl⟩ := List.getElem_of_mem hy
      have := HT.out.1.2.2.1 i
      rwa [List.getElem?_eq_getElem hi] at this
    · rw [(List.mem_replicate.1 hy).2]
      omega
  refine wpList_plain hgd fun _ hK => wp_app8r s x 3 ho B n cap a0 us hs HT.out _ m _ hx List.length_replicate (fun _ => by omega) (fun g hg hroom => ?_) (fun hno => ?_) hY (by omega) hB fun g' cap' w' h1 h2 => hK _ _ (h g' cap' w' h1 h2)
  · subst hg
    rcases HT.out.2 with ⟨e0, _⟩ | ⟨g', hg', hBg, hgl, hnc, hcells⟩
    · cases e0
    cases hg'
    have hst := run_storeCells_cells (P := Tryz.prog) g n ((List.replicate m (0 : Int)).map (Value.int .u8)) 0 w (fun j hj => by
      rw [List.length_map, List.length_replicate] at hj
      exact (hcells (n + 0 + j) (by omega)).1) (fun j hj => by
      rw [List.length_map, List.length_replicate] at hj
      exact (hcells (n + 0 + j) (by omega)).2) hone
    simp only [Nat.add_zero] at hst
    obtain ⟨Z, hZ⟩ : ∃ Z, (List.replicate m (0 : Int)).map (Value.int .u8) = Z := ⟨_, rfl⟩
    have hzc := zero_cells m
    rw [hZ] at hst hzc ⊢
    have e1 : Builtin.zeroCells (Value.int IntKind.u8 0).cells m = Z.toArray := hzc
    simp [-List.map_replicate, Builtin.append_, run_underlying Tryz.underlying22, run_underlying hti, sizeOf, typeInfo, zeroValue, hi0, hi1, hi2, hi3, asInt, asIntOf, hwr, hneg, hbig, hm00, hroom, Addr.add_lit, e1, hst]
  · have hfc := tz_first HT.out i0.size hi1
    rw [hi1] at hfc
    have hfit := growslice_fits (need := n + m) (old := cap) (bytes := i0.bytes) (by omega) (by rw [hi3]; omega)
    rw [hi3] at hfit
    have hn : ¬ (n + m ≤ cap) := by omega
    have h63' : ¬ (9223372036854775807 < ((n : Int) + (m : Int))) := by omega
    have h48' : ¬ (281474976710656 < Builtin.nextslicecap (n + m) cap) := by omega
    simp [-List.map_replicate, Builtin.append_, run_underlying Tryz.underlying22, run_underlying hti, sizeOf, typeInfo, zeroValue, hi0, hi1, hi2, hi3, asInt, asIntOf, hwr, hneg, hbig, hm00, hn, h63', h48', Question.forced, hfc, newRow, grownCap, zero_cells m]
    congr 2
    apply Array.ext'
    simp [-List.map_replicate, List.append_assoc]
end Go.Proofs.YtiodiooaaojbhaaGreatDoor

/- MrkA -/
namespace Go.Proofs.YtiodiooaaojbhaaGreatDoor
open Go.RowKit Go.Deep

/-- All blocks but g are as they were. -/
structure But (g : Nat) (w w' : World) : Prop where
  os : w'.os = w.os
  tape : w'.tape = w.tape
  output : w'.output = w.output
  size : w'.heap.size = w.heap.size
  block : ∀ b, b ≠ g → w'.heap[b]? = w.heap[b]?
theorem But.refl (g : Nat) (w : World) : But g w w := ⟨rfl, rfl, rfl, rfl, fun _ _ => rfl⟩
theorem But.set {g : Nat} {w w' : World} (h : But g w w') (i : Nat) (v : Value) : But g w (w'.setCell ⟨g, i, none⟩ v) :=
  ⟨h.os, h.tape, h.output, by simpa using h.size, fun b hb => (Below.heap_setCell _ _ _ _ hb).trans (h.block b hb)⟩
theorem But.cell {g : Nat} {w w' : World} (h : But g w w') {p : Addr} (hp : p.block ≠ g) : w'.cell? p = w.cell? p := World.cell?_of_block (w := w) (h.block p.block hp)
theorem But.frozen {g : Nat} {w w' : World} (h : But g w w') {p : Addr} (hp : p.block ≠ g) : w'.frozen? p = w.frozen? p := World.frozen?_of_block (w := w) (h.block p.block hp)
theorem But.below {g B : Nat} {w w' : World} (h : But g w w') (hg : B ≤ g) : Below B w w' :=
  ⟨h.os, h.tape, h.output, by rw [h.size]; exact Nat.le_refl _, fun b hb => h.block b (by omega)⟩

theorem set_same {w : World} {g i : Nat} {u v : Value} (h : w.cell? ⟨g, i, none⟩ = some u) : (w.setCell ⟨g, i, none⟩ v).cell? ⟨g, i, none⟩ = some v := by
  simp [go_sem, h]
theorem set_other {w : World} {g i j : Nat} {v : Value} (h : i ≠ j) : (w.setCell ⟨g, j, none⟩ v).cell? ⟨g, i, none⟩ = w.cell? ⟨g, i, none⟩ := by
  simp [go_sem]

end Go.Proofs.YtiodiooaaojbhaaGreatDoor

/- OwnA -/
namespace Go.Proofs.YtiodiooaaojbhaaGreatDoor
open Go.RowKit Go.Deep

/-- A text of the call's own in block g: what it holds, and that it may be written. -/
def OwnT (w : World) (g len : Nat) (bs : List Int) : Prop :=
  Bs w (some ⟨g, 0, none⟩) len bs ∧ g < w.heap.size ∧ (∀ i, i < len → ∃ v, w.cell? ⟨g, i, none⟩ = some (.int .u8 v)) ∧ (∀ i, i < len → w.frozen? ⟨g, i, none⟩ = false)
theorem OwnT.below {w w' : World} {g len : Nat} {bs : List Int} (h : OwnT w g len bs) (hb : Below w.heap.size w w') : OwnT w' g len bs := by
  obtain ⟨h1, h2, h3, h4⟩ := h
  refine ⟨h1.below hb, Nat.lt_of_lt_of_le h2 hb.size, fun i hi => ?_, fun i hi => (hb.frozen (p := ⟨g, i, none⟩) h2).trans (h4 i hi)⟩
  obtain ⟨v, hv⟩ := h3 i hi
  exact ⟨v, (hb.cell (p := ⟨g, i, none⟩) h2).trans hv⟩
theorem Bs.but {w w' : World} {g b len : Nat} {bs : List Int} (h : Bs w (some ⟨b, 0, none⟩) len bs) (hb : But g w w') (hne : b ≠ g) : Bs w' (some ⟨b, 0, none⟩) len bs := by
  obtain ⟨h1, h2, h3, h4⟩ := h
  refine ⟨h1, h2, h3, ?_⟩
  rcases h4 with h4 | ⟨b', off, ha, hlt, hc⟩
  · exact .inl h4
  · cases ha
    exact .inr ⟨b, 0, rfl, by rw [hb.size]; exact hlt, fun i hi => (hb.cell (p := ⟨b, 0 + i, none⟩) hne).trans (hc i hi)⟩
theorem OwnT.but {w w' : World} {g b len : Nat} {bs : List Int} (h : OwnT w b len bs) (hb : But g w w') (hne : b ≠ g) : OwnT w' b len bs := by
  obtain ⟨h1, h2, h3, h4⟩ := h
  refine ⟨h1.but hb hne, by rw [hb.size]; exact h2, fun i hi => ?_, fun i hi => (hb.frozen (p := ⟨b, i, none⟩) hne).trans (h4 i hi)⟩
  obtain ⟨v, hv⟩ := h3 i hi
  exact ⟨v, (hb.cell (p := ⟨b, i, none⟩) hne).trans hv⟩
theorem At4.but {w w' : World} {g b : Nat} {v0 v1 v2 v3 : Value} (h : At4 w b v0 v1 v2 v3) (hb : But g w w') (hne : b ≠ g) : At4 w' b v0 v1 v2 v3 := by
  obtain ⟨hl, h0, h1, h2, h3⟩ := h
  exact ⟨by rw [hb.size]; exact hl, (hb.cell (p := ⟨b, 0, none⟩) hne).trans h0, (hb.cell (p := ⟨b, 1, none⟩) hne).trans h1, (hb.cell (p := ⟨b, 2, none⟩) hne).trans h2, (hb.cell (p := ⟨b, 3, none⟩) hne).trans h3⟩
end Go.Proofs.YtiodiooaaojbhaaGreatDoor

/- TriA -/
namespace Go.Proofs.YtiodiooaaojbhaaGreatDoor
open Go.RowKit Go.Deep

/-- A term's parts: kind, text's place, length and room, number, scale. -/
structure Tm where
  k : Int
  a : Option Addr
  len : Nat
  cap : Nat
  n : Int
  s : Int
def Tm0 : Tm := ⟨0, none, 0, 0, 0, 0⟩
/-- A term whose text lies in a block of its own. -/
def Tm.own (t : Tm) (g : Nat) : Tm := ⟨t.k, some ⟨g, 0, none⟩, t.len, t.len, t.n, t.s⟩
/-- Its numbers are of 64 bits. -/
def Tm.fits (t : Tm) : Prop := -9223372036854775808 ≤ t.n ∧ t.n ≤ 9223372036854775807 ∧ -9223372036854775808 ≤ t.s ∧ t.s ≤ 9223372036854775807
/-- Three terms in a row from place o on in block b. -/
def At12 (w : World) (b : Nat) (t u v : Tm) : Prop :=
  b < w.heap.size ∧
    (w.cell? ⟨b, 0, none⟩ = some (.int .i64 t.k) ∧ w.cell? ⟨b, 1, none⟩ = some (.slice t.a t.len t.cap) ∧ w.cell? ⟨b, 2, none⟩ = some (.int .i64 t.n) ∧ w.cell? ⟨b, 3, none⟩ = some (.int .i64 t.s)) ∧
    (w.cell? ⟨b, 4, none⟩ = some (.int .i64 u.k) ∧ w.cell? ⟨b, 5, none⟩ = some (.slice u.a u.len u.cap) ∧ w.cell? ⟨b, 6, none⟩ = some (.int .i64 u.n) ∧ w.cell? ⟨b, 7, none⟩ = some (.int .i64 u.s)) ∧
    (w.cell? ⟨b, 8, none⟩ = some (.int .i64 v.k) ∧ w.cell? ⟨b, 9, none⟩ = some (.slice v.a v.len v.cap) ∧ w.cell? ⟨b, 10, none⟩ = some (.int .i64 v.n) ∧ w.cell? ⟨b, 11, none⟩ = some (.int .i64 v.s))
theorem At12.below {w w' : World} {b : Nat} {t u v : Tm} (h : At12 w b t u v) (hb : Below w.heap.size w w') : At12 w' b t u v := by
  obtain ⟨hl, h⟩ := h
  have e : ∀ i, w'.cell? ⟨b, i, none⟩ = w.cell? ⟨b, i, none⟩ := fun i => hb.cell (p := ⟨b, i, none⟩) hl
  refine ⟨Nat.lt_of_lt_of_le hl hb.size, ?_⟩
  simp only [e]
  exact h
/-- .. and they may be written. -/
def Own12 (w : World) (b : Nat) (t u v : Tm) : Prop := At12 w b t u v ∧ ∀ i, i < 12 → w.frozen? ⟨b, i, none⟩ = false
theorem Own12.below {w w' : World} {b : Nat} {t u v : Tm} (h : Own12 w b t u v) (hb : Below w.heap.size w w') : Own12 w' b t u v :=
  ⟨h.1.below hb, fun i hi => (hb.frozen (p := ⟨b, i, none⟩) h.1.1).trans (h.2 i hi)⟩
def cells12 (t u v : Tm) : Array Value := #[.int .i64 t.k, .slice t.a t.len t.cap, .int .i64 t.n, .int .i64 t.s, .int .i64 u.k, .slice u.a u.len u.cap, .int .i64 u.n, .int .i64 u.s, .int .i64 v.k, .slice v.a v.len v.cap, .int .i64 v.n, .int .i64 v.s]
theorem Own12.at (w : World) (b : Nat) (t u v : Tm) (T : TypeId) (e : b = w.heap.size) : Own12 (w.alloc (.cells (cells12 t u v) T)) b t u v := by
  subst e
  refine ⟨⟨by simp, ⟨?_, ?_, ?_, ?_⟩, ⟨?_, ?_, ?_, ?_⟩, ⟨?_, ?_, ?_, ?_⟩⟩, fun i hi => ?_⟩
  all_goals simp [go_sem, cells12]
/-- A term's four cells written at places i, i+1, i+2, i+3. -/
def put4 (w : World) (b i0 i1 i2 i3 : Nat) (t : Tm) : World := (((w.setCell ⟨b, i0, none⟩ (.int .i64 t.k)).setCell ⟨b, i1, none⟩ (.slice t.a t.len t.cap)).setCell ⟨b, i2, none⟩ (.int .i64 t.n)).setCell ⟨b, i3, none⟩ (.int .i64 t.s)
theorem put4_size {w : World} {b i0 i1 i2 i3 : Nat} {x : Tm} : (put4 w b i0 i1 i2 i3 x).heap.size = w.heap.size := by simp [put4]
theorem Bs.put {w : World} {g len : Nat} {bs : List Int} {c i0 i1 i2 i3 : Nat} {x : Tm} (h : Bs w (some ⟨g, 0, none⟩) len bs) (hne : g ≠ c) : Bs (put4 w c i0 i1 i2 i3 x) (some ⟨g, 0, none⟩) len bs := by
  obtain ⟨h1, h2, h3, h4⟩ := h
  refine ⟨h1, h2, h3, ?_⟩
  rcases h4 with h4 | ⟨b', off, ha, hlt, hc⟩
  · exact .inl h4
  · cases ha
    refine .inr ⟨g, 0, rfl, by rw [put4_size]; exact hlt, fun i hi => ?_⟩
    unfold put4
    rw [World.cell?_of_block (Below.heap_setCell _ _ _ _ (by exact hne)), World.cell?_of_block (Below.heap_setCell _ _ _ _ (by exact hne)), World.cell?_of_block (Below.heap_setCell _ _ _ _ (by exact hne)), World.cell?_of_block (Below.heap_setCell _ _ _ _ (by exact hne))]
    exact hc i hi
theorem OwnT.put {w : World} {g len : Nat} {bs : List Int} {c i0 i1 i2 i3 : Nat} {x : Tm} (h : OwnT w g len bs) (hne : g ≠ c) : OwnT (put4 w c i0 i1 i2 i3 x) g len bs := by
  obtain ⟨h1, h2, h3, h4⟩ := h
  have e : ∀ i, (put4 w c i0 i1 i2 i3 x).cell? ⟨g, i, none⟩ = w.cell? ⟨g, i, none⟩ := fun i => by
    unfold put4
    rw [World.cell?_of_block (Below.heap_setCell _ _ _ _ (by exact hne)), World.cell?_of_block (Below.heap_setCell _ _ _ _ (by exact hne)), World.cell?_of_block (Below.heap_setCell _ _ _ _ (by exact hne)), World.cell?_of_block (Below.heap_setCell _ _ _ _ (by exact hne))]
  exact ⟨h1.put hne, by rw [put4_size]; exact h2, fun i hi => by rw [e i]; exact h3 i hi, fun i hi => by simp [put4, h4 i hi]⟩
end Go.Proofs.YtiodiooaaojbhaaGreatDoor
