import Derived.Test.YthljoojcpbignaaGreatDoorMk01
import Derived.Deep.AppendLies
import Derived.ArgAppend
namespace Go.Proofs.YthljoojcpbignaaGreatDoor
open Go.RowKit Go.Deep
set_option maxHeartbeats 40000000
set_option maxRecDepth 100000
def digF : Nat → Nat → List Int
 | 0, n => [48 + (n : Int) % 10]
 | f + 1, n => if n < 10 then [48 + (n : Int)] else digF f (n / 10) ++ [48 + (n : Int) % 10]
def digitsL (n : Nat) : List Int := digF n n
theorem digF_small {n : Nat} (h : n < 10) : ∀ f, digF f n = [48 + (n : Int)]
 | 0 => by
  have : (n : Int) % 10 = n := by omega
  simp [digF, this]
 | f + 1 => by simp [digF, h]
theorem digF_like : ∀ (f g n : Nat), n ≤ f → n ≤ g → digF f n = digF g n
 | 0, g, n, h, _ => by rw [digF_small (by omega), digF_small (by omega)]
 | f + 1, 0, n, _, h => by rw [digF_small (by omega), digF_small (by omega)]
 | f + 1, g + 1, n, h1, h2 => by
  by_cases h : n < 10
  · rw [digF_small h, digF_small h]
  simp only [digF, h, if_false]
  rw [digF_like f g (n / 10) (by omega) (by omega)]
theorem digitsL_small {n : Nat} (h : n < 10) : digitsL n = [48 + (n : Int)] := digF_small h n
theorem digitsL_step {n : Nat} (h : ¬ n < 10) : digitsL n = digitsL (n / 10) ++ [48 + (n : Int) % 10] := by
 obtain ⟨m, rfl⟩ : ∃ m, n = m + 1 := ⟨n - 1, by omega⟩
 unfold digitsL
 rw [digF_like ((m + 1) / 10) m ((m + 1) / 10) (by omega) (by omega)]
 simp only [digF, h, if_false]
theorem digitsL_len (k : Nat) : ∀ n : Nat, n < 10 ^ (k + 1) → (digitsL n).length ≤ k + 1 := by
 induction k with
 | zero => intro n h; rw [digitsL_small (by omega)]; simp
 | succ k ih =>
  intro n h
  by_cases h0 : n < 10
  · rw [digitsL_small h0]; simp
  rw [digitsL_step h0]
  have := ih (n / 10) (by rw [Nat.pow_succ] at h; omega)
  simp
  omega
def Row8 (w : World) (B g n cap : Nat) (bs : List Int) : Prop := w.ownsRow B 5 1 (.slice (some ⟨g, 0, none⟩) n cap) n (bs.map (Value.int .u8)) ∧ g < w.heap.size
theorem Row8.new (w : World) (x : Int) : Row8 (w.alloc (.cells #[.int .u8 x] 5)) w.heap.size w.heap.size 1 1 [x] := by
 refine ⟨⟨rfl, .inr ⟨w.heap.size, 1, #[.int .u8 x], rfl, nR, by simp [World.alloc, -World.alloc_eq], by omega, by unfold maxLen; omega, rfl, rfl⟩⟩, by simp⟩
theorem Row8.below {w w' : World} {B g n cap : Nat} {bs : List Int} (h : Row8 w B g n cap bs) (hb : Bl w w') : Row8 w' B g n cap bs := by
 obtain ⟨⟨h1, h2⟩, hl⟩ := h
 refine ⟨⟨h1, ?_⟩, Nat.lt_of_lt_of_le hl hb.size⟩
 rcases h2 with ⟨h2, _⟩ | ⟨g', cap', cur, hv, hB, hh, r⟩
 · cases h2
 refine .inr ⟨g', cap', cur, hv, hB, ?_, r⟩
 cases hv
 rw [hb.block g hl]
 exact hh
theorem Row8.mono {w : World} {B B' g n cap : Nat} {bs : List Int} (h : Row8 w B g n cap bs) (hB : B' ≤ B) : Row8 w B' g n cap bs := by
 obtain ⟨⟨h1, h2⟩, hl⟩ := h
 refine ⟨⟨h1, ?_⟩, hl⟩
 rcases h2 with ⟨h2, _⟩ | ⟨g', cap', cur, hv, hb, r⟩
 · cases h2
 exact .inr ⟨g', cap', cur, hv, Nat.le_trans hB hb, r⟩
theorem grown_below {w w' : World} {B g : Nat} (h : w.grownBy w' (some g)) (hB : B ≤ g) (hw : B ≤ w.heap.size) : Below B w w' :=
 ⟨h.os, h.tape, h.output, h.size, fun b hb => h.block b (by omega) (by intro e; cases e; omega)⟩
def DigRes (w : World) (bs : List Int) (e : Ending) (w' : World) : Prop := ∃ g cap, e = .returned (.slice (some ⟨g, 0, none⟩) bs.length cap) ∧ Row8 w' w.heap.size g bs.length cap bs ∧ Below w.heap.size w w'
theorem l1digits_any : ∀ (n : Nat) (w : World), n ≤ 9223372036854775807 → Calls Tryz.prog 69 #[.int .i64 n] w fun e w' => DigRes w (digitsL n) e w' := by
 intro n
 induction n using Nat.strongRecOn with
 | ind n ih =>
  intro w hn
  obtain ⟨i0, hi0, hzz⟩ := Option.map_eq_some_iff.1 Tryz.info5
  simp only [Prod.mk.injEq] at hzz
  obtain ⟨hi2, hi1, hi3⟩ := hzz
  by_cases h : n < 10
  · rw [digitsL_small h]
    have hw : IntKind.u8.wrap (48 + (n : Int)) = 48 + (n : Int) := by rw [IntKind.wrap_u8]; omega
    clear ih hi0 hi1 hi2 hi3
    go_in
    go_wp2
    go_ret
    exact ⟨w.heap.size, 1, rfl, Row8.new w _, bl_a _⟩
  have IH : Calls Tryz.prog 69 #[.int .i64 ((n : Int) / 10)] w fun e w' => DigRes w (digitsL (n / 10)) e w' := by
   have := ih (n / 10) (by omega) w (by omega)
   rwa [Int.natCast_ediv] at this
  clear ih
  rw [digitsL_step h]
  have hw : IntKind.u8.wrap (48 + ((n : Int) % 10)) = 48 + (n : Int) % 10 := by rw [IntKind.wrap_u8]; omega
  have hL := digitsL_len 19 (n / 10) (by omega)
  generalize digitsL (n / 10) = ds at *
  go_in
  go_wp2_with fail
  refine IH.mono ?_
  rintro e w1 ⟨g, cap, rfl, hr, hb⟩
  have hr2 := hr.below (bl_a (.cells #[.int .u8 (48 + (n : Int) % 10)] 5))
  have hb2 := bl_trans hb (bl_a (.cells #[.int .u8 (48 + (n : Int) % 10)] 5))
  have hnw : ∀ j u, [Value.int .u8 (48 + (n : Int) % 10)][j]? = some u → (w1.alloc (.cells #[.int .u8 (48 + (n : Int) % 10)] 5)).cell? ((⟨w1.heap.size, 0, none⟩ : Addr).add j) = some u := by
   intro j u hj
   have hj0 : j = 0 := by
    cases j with
    | zero => rfl
    | succ j => simp at hj
   subst hj0
   simp at hj
   subst hj
   simp [Addr.add, go_sem]
  have HO := iH hr2
  have HN := iH hnw
  have hgB : w.heap.size ≤ g := by
   rcases hr.1.2 with ⟨h, _⟩ | ⟨g', cap', cur, hv, hB, _⟩
   · cases h
   cases hv; exact hB
  have hs := hb2.size
  clear hr hr2 hnw hb IH
  go_wp2_with (refine wpList_append_lies _ rfl (.tmp 11) (.tmp 16) 42 rfl w.heap.size 5 i0 (.int .u8 0) 1 1 Tryz.underlying42 hi0 hi2 hi1 hi3 rfl (by omega) (.slice (some ⟨g, 0, none⟩) ds.length cap) ds.length (ds.map (Value.int .u8)) rfl HO.o.1 ⟨w1.heap.size, 0, none⟩ 1 1 [.int .u8 (48 + (n : Int) % 10)] rfl rfl HN.o (by simp [Value.oneCell']) (by omega) (by unfold maxLen; omega) (by omega) hs _ rfl ?_; intro g' cap' w3 hown hgr hgg hlt)
  go_ret
  refine ⟨g', cap', by simp, ⟨?_, hlt⟩, hb2.trans (grown_below hgr hgB hs)⟩
  simpa using hown
theorem one_news (w : World) (x : Int) : ∀ j u, [Value.int .u8 x][j]? = some u → (w.alloc (.cells #[.int .u8 x] 5)).cell? ((⟨w.heap.size, 0, none⟩ : Addr).add j) = some u := by
 intro j u hj
 have hj0 : j = 0 := by
  cases j with
  | zero => rfl
  | succ j => simp at hj
 subst hj0
 simp at hj
 subst hj
 simp [Addr.add, go_sem]
theorem bs_news {w : World} {b off len : Nat} {bs : List Int} (h : Bs w (some ⟨b, off, none⟩) len bs) : ∀ j u, (bs.map (Value.int .u8))[j]? = some u → w.cell? ((⟨b, off, none⟩ : Addr).add j) = some u := by
 intro j u hj
 obtain ⟨h1, _, _, h4⟩ := h
 have hjl : j < bs.length := by
  apply Classical.byContradiction
  intro hn
  rw [List.getElem?_eq_none (by simp; omega)] at hj
  cases hj
 obtain ⟨b', off', ha, _, hc⟩ := h4.resolve_left (by omega)
 cases ha
 have ea : (⟨b, off, none⟩ : Addr).add j = ⟨b, off + j, none⟩ := by
  by_cases h0 : j = 0 <;> simp [Addr.add, h0]
 rw [ea, hc j (by omega), ← hj]
 simp [List.getElem?_eq_getElem hjl]
theorem Row8.ge {w : World} {B g n cap : Nat} {bs : List Int} (h : Row8 w B g n cap bs) : B ≤ g := by
 rcases h.1.2 with ⟨h, _⟩ | ⟨g', cap', cur, hv, hB, _⟩
 · cases h
 cases hv; exact hB
theorem oneCell_map (bs : List Int) : ∀ u ∈ bs.map (Value.int .u8), u.oneCell' = true := by
 intro u hu
 obtain ⟨x, _, rfl⟩ := List.mem_map.1 hu
 rfl
theorem Row8.grown {w3 : World} {B g n cap : Nat} {us bs : List Int} {vs : List Value} (h : w3.ownsRow B 5 1 (.slice (some ⟨g, 0, none⟩) n cap) n (us.map (Value.int .u8) ++ vs)) (hv : vs = bs.map (Value.int .u8)) (hl : g < w3.heap.size) : Row8 w3 B g n cap (us ++ bs) := by
 subst hv
 rw [← List.map_append] at h
 exact ⟨h, hl⟩
theorem l1show_name (n s : Int) (b off len cap : Nat) (bs : List Int) (w : World) (hB : Bs w (some ⟨b, off, none⟩) len bs) (h1 : 1 ≤ len) :
 Calls Tryz.prog 99 #[.agg #[.int .i64 0, .slice (some ⟨b, off, none⟩) len cap, .int .i64 n, .int .i64 s]] w fun e w' => DigRes w (60 :: (bs ++ [62])) e w' := by
 obtain ⟨i0, hi0, hzz⟩ := Option.map_eq_some_iff.1 Tryz.info5
 simp only [Prod.mk.injEq] at hzz
 obtain ⟨hi2, hi1, hi3⟩ := hzz
 have hlen := hB.1
 have h20 := hB.2.1
 have R1 : ∀ o, Row8 ((w.alloc o).alloc (.cells #[.int .u8 60] 5)) w.heap.size (w.heap.size + 1) 1 1 [60] := fun o => by
  have := (Row8.new (w.alloc o) 60).mono (B' := w.heap.size) (by simp)
  simpa using this
 have HN : Hd (∀ o o', ∀ j u, (bs.map (Value.int .u8))[j]? = some u → ((w.alloc o).alloc o').cell? ((⟨b, off, none⟩ : Addr).add j) = some u) := fun o o' => bs_news (hB.below (bl_alloc (bl_a _) _))
 have HR := iH R1
 clear R1 hB
 go_in
 go_wp2_with (first
  | (refine wpList_append_lies _ rfl (.tmp 9) (.tmp 11) 42 rfl w.heap.size 5 i0 (.int .u8 0) 1 1 Tryz.underlying42 hi0 hi2 hi1 hi3 rfl (by omega) (.slice (some ⟨w.heap.size + 1, 0, none⟩) 1 1) 1 [.int .u8 60] rfl (HR.o _).1 ⟨b, off, none⟩ len _ (bs.map (Value.int .u8)) rfl (by simp [hlen]) (HN.o _ _) (oneCell_map bs) (by omega) (by unfold maxLen; omega) (by omega) (bl_alloc (bl_a _) _).size _ rfl ?_; intro g3 cap3 w3 hown3 hgr3 hgg3 hlt3; have hr3 := Row8.grown (us := [60]) hown3 rfl hlt3; have hb3 : Bl w w3 := (bl_alloc (bl_a _) _).trans (grown_below (g := w.heap.size + 1) hgr3 (Nat.le_succ _) (bl_alloc (bl_a _) _).size); clear hown3 hgr3 hgg3; have HR3 : Hd (Row8 (w3.alloc (.cells #[.int .u8 62] 5)) w.heap.size g3 (1 + len) cap3 ([60] ++ bs)) := hr3.below (bl_a _); have HB3 : Hd (Bl w (w3.alloc (.cells #[.int .u8 62] 5))) := bl_alloc hb3 _; clear hr3 hb3)
  | (refine wpList_append_lies _ rfl (.tmp 12) (.tmp 13) 42 rfl w.heap.size 5 i0 (.int .u8 0) 1 1 Tryz.underlying42 hi0 hi2 hi1 hi3 rfl (by omega) (.slice (some ⟨g3, 0, none⟩) (1 + len) cap3) (1 + len) (([60] ++ bs).map (Value.int .u8)) rfl HR3.o.1 ⟨w3.heap.size, 0, none⟩ 1 _ [.int .u8 62] rfl rfl (one_news w3 62) (by simp [Value.oneCell']) (by omega) (by unfold maxLen; omega) (by omega) HB3.o.size _ rfl ?_; intro g4 cap4 w4 hown4 hgr4 hgg4 hlt4; have hr4 := Row8.grown (us := [60] ++ bs) (bs := [62]) hown4 rfl hlt4; have hb4 : Bl w w4 := HB3.o.trans (grown_below (g := g3) hgr4 HR3.o.ge HB3.o.size); clear hown4 hgr4 hgg4))
 go_ret
 have el : (60 :: (bs ++ [62]) : List Int).length = 1 + len + 1 := by simp [hlen]; omega
 exact ⟨g4, cap4, by rw [el]; rfl, by rw [el]; exact hr4, hb4⟩
theorem Row8.news {w : World} {B g n cap : Nat} {bs : List Int} (h : Row8 w B g n cap bs) : ∀ j u, (bs.map (Value.int .u8))[j]? = some u → w.cell? ((⟨g, 0, none⟩ : Addr).add j) = some u := by
 intro j u hj
 obtain ⟨⟨h1, h2⟩, hl⟩ := h
 rcases h2 with ⟨h2, _⟩ | ⟨g', cap', cur, hv, hB, hh, hle, _, hsz, htk⟩
 · cases h2
 cases hv
 have ea : (⟨g, 0, none⟩ : Addr).add j = ⟨g, 0 + j, none⟩ := by
  by_cases h0 : j = 0 <;> simp [Addr.add, h0]
 rw [ea, ← hj, ← htk, List.getElem?_take]
 have hjl : j < bs.length := by
  apply Classical.byContradiction
  intro hn
  rw [List.getElem?_eq_none (by simp; omega)] at hj
  cases hj
 have hbl : bs.length = n := by simpa using h1
 rw [if_pos (by omega)]
 simp [World.cell?, hh]
theorem digitsL_pos (n : Nat) : 1 ≤ (digitsL n).length := by
 by_cases h : n < 10
 · rw [digitsL_small h]; simp
 rw [digitsL_step h]; simp
def esc (bs : List Int) : List Int := bs.flatMap fun b => if b = 34 ∨ b = 92 then [92, b] else [b]
theorem esc_snoc (bs : List Int) (b : Int) : esc (bs ++ [b]) = esc bs ++ (if b = 34 ∨ b = 92 then [92, b] else [b]) := by simp [esc]
theorem esc_len (bs : List Int) : (esc bs).length ≤ 2 * bs.length := by
 induction bs with
 | nil => simp [esc]
 | cons b bs ih =>
  have : esc (b :: bs) = (if b = 34 ∨ b = 92 then [92, b] else [b]) ++ esc bs := rfl
  rw [this]
  split <;> simp <;> omega
theorem take_snoc (bs : List Int) (k : Nat) (h : k < bs.length) : bs.take (k + 1) = bs.take k ++ [bs[k]?.getD 0] := by
 rw [List.take_add_one, List.getElem?_eq_getElem h]
 rfl
theorem quoted_any (a : Option Addr) (len cap : Nat) (bs : List Int) (w : World) (hB : Bs w a len bs) :
 Calls Tryz.prog 245 #[.slice a len cap] w fun e w' => DigRes w (34 :: (esc bs ++ [34])) e w' := by
 obtain ⟨i0, hi0, hzz⟩ := Option.map_eq_some_iff.1 Tryz.info5
 simp only [Prod.mk.injEq] at hzz
 obtain ⟨hi2, hi1, hi3⟩ := hzz
 have hlen := hB.1
 have h20 := hB.2.1
 have HR0 := iH (Row8.new w 34)
 have HBs := iH hB
 have HL := iH hlen
 clear hB hlen
 go_in
 go_wp2_with fail
 go_loopw [3, 9] (fun x i wr => ∃ (k g n cap' : Nat), k ≤ len ∧ i = .int .i64 k ∧ x = .slice (some ⟨g, 0, none⟩) n cap' ∧ n ≤ 1 + 2 * k ∧ Hd (Row8 wr w.heap.size g n cap' (34 :: esc (bs.take k))) ∧ Hd (Bl w wr))
  (fun _ i _ => len - (intOf i).toNat)
 case atStart => exact ⟨0, w.heap.size, 1, 1, nZ, rfl, rfl, by omega, HR0, bl_a _⟩
 obtain ⟨k, g, n, cap', hk, rfl, rfl, hn, HR, HB⟩ := hrel
 clear HR0
 by_cases hlk : k < len
 · obtain ⟨b, off, rfl, hbl, hc⟩ := HBs.o.2.2.2.resolve_left (by omega)
   have hx := (HB.o.cell (p := ⟨b, off + k, none⟩) hbl).trans (hc k hlk)
   have hv := HBs.o.2.2.1 k
   have HE : Hd (esc (bs.take (k + 1)) = esc (bs.take k) ++ (if bs[k]?.getD 0 = 34 ∨ bs[k]?.getD 0 = 92 then [92, bs[k]?.getD 0] else [bs[k]?.getD 0])) := by
    show _ = _
    rw [take_snoc bs k (by have := HL.o; omega), esc_snoc]
   clear hc
   generalize bs[k]?.getD 0 = v at *
   have HR1 : ∀ y : Int, Hd (Row8 (wr.alloc (.cells #[.int .u8 y] 5)) w.heap.size g n cap' (34 :: esc (bs.take k))) := fun y => HR.o.below (bl_a _)
   have HB1 : ∀ y : Int, Hd (Bl w (wr.alloc (.cells #[.int .u8 y] 5))) := fun y => bl_alloc HB.o _
   by_cases hq : v = 34 ∨ v = 92
   · have HE' : Hd (esc (bs.take (k + 1)) = esc (bs.take k) ++ [92, v]) := by show _ = _; rw [HE.o, if_pos hq]
     clear HE
     have hor : ((v == 34) || (v == 92)) = true := by simpa using hq
     cases h34 : (v == 34)
     · have h92 : (v == 92) = true := by simpa [h34] using hor
       clear hq hor
       go_wp2_with (first
        | (refine wpList_append_lies _ rfl (.tmp 19) (.tmp 20) 42 rfl w.heap.size 5 i0 (.int .u8 0) 1 1 Tryz.underlying42 hi0 hi2 hi1 hi3 rfl (by omega) (.slice (some ⟨g, 0, none⟩) n cap') n ((34 :: esc (bs.take k)).map (Value.int .u8)) rfl (HR1 92).o.1 ⟨wr.heap.size, 0, none⟩ 1 _ [.int .u8 92] rfl rfl (one_news wr 92) (by simp [Value.oneCell']) (by omega) (by unfold maxLen; omega) (by omega) (HB1 92).o.size _ rfl ?_; intro g3 cap3 w3 hown3 hgr3 hgg3 hlt3; have hr3 : Row8 w3 w.heap.size g3 (n + 1) cap3 ((34 :: esc (bs.take k)) ++ [92]) := Row8.grown (us := 34 :: esc (bs.take k)) (bs := [92]) hown3 rfl hlt3; have hb3 : Bl w w3 := (HB1 92).o.trans (grown_below (g := g) hgr3 HR.o.ge (HB1 92).o.size); clear hown3 hgr3 hgg3; have HR3 : Hd (Row8 (w3.alloc (.cells #[.int .u8 v] 5)) w.heap.size g3 (n + 1) cap3 ((34 :: esc (bs.take k)) ++ [92])) := hr3.below (bl_a _); have HB3 : Hd (Bl w (w3.alloc (.cells #[.int .u8 v] 5))) := bl_alloc hb3 _; clear hr3 hb3)
        | (refine wpList_append_lies _ rfl (.tmp 22) (.tmp 24) 42 rfl w.heap.size 5 i0 (.int .u8 0) 1 1 Tryz.underlying42 hi0 hi2 hi1 hi3 rfl (by omega) (.slice (some ⟨g3, 0, none⟩) (n + 1) cap3) (n + 1) (((34 :: esc (bs.take k)) ++ [92]).map (Value.int .u8)) rfl HR3.o.1 ⟨w3.heap.size, 0, none⟩ 1 _ [.int .u8 v] rfl rfl (one_news w3 v) (by simp [Value.oneCell']) (by omega) (by unfold maxLen; omega) (by omega) HB3.o.size _ rfl ?_; intro g4 cap4 w4 hown4 hgr4 hgg4 hlt4; have HR4 : Hd (Row8 w4 w.heap.size g4 (n + 1 + 1) cap4 (((34 :: esc (bs.take k)) ++ [92]) ++ [v])) := Row8.grown (us := (34 :: esc (bs.take k)) ++ [92]) (bs := [v]) hown4 rfl hlt4; have HB4 : Hd (Bl w w4) := HB3.o.trans (grown_below (g := g3) hgr4 HR3.o.ge HB3.o.size); clear hown4 hgr4 hgg4))
       go_roundw
       case rel =>
        refine ⟨k + 1, g4, n + 1 + 1, cap4, by omega, by go_num, rfl, by omega, ?_, HB4⟩
        have h := HR4.o
        show Row8 _ _ _ _ _ _
        rw [HE'.o]
        simpa using h
       case measure => simp [intOf]; omega
     clear hq hor
     go_wp2_with (first
      | (refine wpList_append_lies _ rfl (.tmp 19) (.tmp 20) 42 rfl w.heap.size 5 i0 (.int .u8 0) 1 1 Tryz.underlying42 hi0 hi2 hi1 hi3 rfl (by omega) (.slice (some ⟨g, 0, none⟩) n cap') n ((34 :: esc (bs.take k)).map (Value.int .u8)) rfl (HR1 92).o.1 ⟨wr.heap.size, 0, none⟩ 1 _ [.int .u8 92] rfl rfl (one_news wr 92) (by simp [Value.oneCell']) (by omega) (by unfold maxLen; omega) (by omega) (HB1 92).o.size _ rfl ?_; intro g3 cap3 w3 hown3 hgr3 hgg3 hlt3; have hr3 : Row8 w3 w.heap.size g3 (n + 1) cap3 ((34 :: esc (bs.take k)) ++ [92]) := Row8.grown (us := 34 :: esc (bs.take k)) (bs := [92]) hown3 rfl hlt3; have hb3 : Bl w w3 := (HB1 92).o.trans (grown_below (g := g) hgr3 HR.o.ge (HB1 92).o.size); clear hown3 hgr3 hgg3; have HR3 : Hd (Row8 (w3.alloc (.cells #[.int .u8 v] 5)) w.heap.size g3 (n + 1) cap3 ((34 :: esc (bs.take k)) ++ [92])) := hr3.below (bl_a _); have HB3 : Hd (Bl w (w3.alloc (.cells #[.int .u8 v] 5))) := bl_alloc hb3 _; clear hr3 hb3)
      | (refine wpList_append_lies _ rfl (.tmp 22) (.tmp 24) 42 rfl w.heap.size 5 i0 (.int .u8 0) 1 1 Tryz.underlying42 hi0 hi2 hi1 hi3 rfl (by omega) (.slice (some ⟨g3, 0, none⟩) (n + 1) cap3) (n + 1) (((34 :: esc (bs.take k)) ++ [92]).map (Value.int .u8)) rfl HR3.o.1 ⟨w3.heap.size, 0, none⟩ 1 _ [.int .u8 v] rfl rfl (one_news w3 v) (by simp [Value.oneCell']) (by omega) (by unfold maxLen; omega) (by omega) HB3.o.size _ rfl ?_; intro g4 cap4 w4 hown4 hgr4 hgg4 hlt4; have HR4 : Hd (Row8 w4 w.heap.size g4 (n + 1 + 1) cap4 (((34 :: esc (bs.take k)) ++ [92]) ++ [v])) := Row8.grown (us := (34 :: esc (bs.take k)) ++ [92]) (bs := [v]) hown4 rfl hlt4; have HB4 : Hd (Bl w w4) := HB3.o.trans (grown_below (g := g3) hgr4 HR3.o.ge HB3.o.size); clear hown4 hgr4 hgg4))
     go_roundw
     case rel =>
      refine ⟨k + 1, g4, n + 1 + 1, cap4, by omega, by go_num, rfl, by omega, ?_, HB4⟩
      have h := HR4.o
      show Row8 _ _ _ _ _ _
      rw [HE'.o]
      simpa using h
     case measure => simp [intOf]; omega
   have HE' : Hd (esc (bs.take (k + 1)) = esc (bs.take k) ++ [v]) := by show _ = _; rw [HE.o, if_neg hq]
   have h34 : (v == 34) = false := by simp; omega
   have h92 : (v == 92) = false := by simp; omega
   clear HE hq
   go_wp2_with (refine wpList_append_lies _ rfl (.tmp 22) (.tmp 24) 42 rfl w.heap.size 5 i0 (.int .u8 0) 1 1 Tryz.underlying42 hi0 hi2 hi1 hi3 rfl (by omega) (.slice (some ⟨g, 0, none⟩) n cap') n ((34 :: esc (bs.take k)).map (Value.int .u8)) rfl (HR1 v).o.1 ⟨wr.heap.size, 0, none⟩ 1 _ [.int .u8 v] rfl rfl (one_news wr v) (by simp [Value.oneCell']) (by omega) (by unfold maxLen; omega) (by omega) (HB1 v).o.size _ rfl ?_; intro g4 cap4 w4 hown4 hgr4 hgg4 hlt4; have HR4 : Hd (Row8 w4 w.heap.size g4 (n + 1) cap4 ((34 :: esc (bs.take k)) ++ [v])) := Row8.grown (us := 34 :: esc (bs.take k)) (bs := [v]) hown4 rfl hlt4; have HB4 : Hd (Bl w w4) := (HB1 v).o.trans (grown_below (g := g) hgr4 HR.o.ge (HB1 v).o.size); clear hown4 hgr4 hgg4)
   go_roundw
   case rel =>
    refine ⟨k + 1, g4, n + 1, cap4, by omega, by go_num, rfl, by omega, ?_, HB4⟩
    have := HR4.o
    show Row8 _ _ _ _ _ _
    rw [HE'.o]
    exact this
   case measure => simp [intOf]; omega
 obtain rfl : k = len := by omega
 have HR' : Hd (Row8 wr w.heap.size g n cap' (34 :: esc bs)) := by
  have := HR.o
  rwa [List.take_of_length_le (by have := HL.o; omega)] at this
 have HR1 : Hd (Row8 (wr.alloc (.cells #[.int .u8 34] 5)) w.heap.size g n cap' (34 :: esc bs)) := HR'.o.below (bl_a _)
 have HB1 : Hd (Bl w (wr.alloc (.cells #[.int .u8 34] 5))) := bl_alloc HB.o _
 have HNL : Hd (n = (34 :: esc bs : List Int).length) := by
  have := HR'.o.1.1
  show _ = _
  simpa using this.symm
 clear HR
 go_wp2_with (refine wpList_append_lies _ rfl (.tmp 27) (.tmp 28) 42 rfl w.heap.size 5 i0 (.int .u8 0) 1 1 Tryz.underlying42 hi0 hi2 hi1 hi3 rfl (by omega) (.slice (some ⟨g, 0, none⟩) n cap') n ((34 :: esc bs).map (Value.int .u8)) rfl HR1.o.1 ⟨wr.heap.size, 0, none⟩ 1 _ [.int .u8 34] rfl rfl (one_news wr 34) (by simp [Value.oneCell']) (by omega) (by unfold maxLen; omega) (by omega) HB1.o.size _ rfl ?_; intro g4 cap4 w4 hown4 hgr4 hgg4 hlt4; have hr4 := Row8.grown (us := 34 :: esc bs) (bs := [34]) hown4 rfl hlt4; have hb4 : Bl w w4 := HB1.o.trans (grown_below (g := g) hgr4 HR'.o.ge HB1.o.size); clear hown4 hgr4 hgg4)
 go_ret
 have el : (34 :: (esc bs ++ [34]) : List Int).length = n + 1 := by rw [HNL.o]; simp
 exact ⟨g4, cap4, by rw [el]; rfl, by rw [el]; exact hr4, hb4⟩
theorem l1show_text (m s : Int) (a : Option Addr) (len cap : Nat) (bs : List Int) (w : World) (hB : Bs w a len bs) :
 Calls Tryz.prog 99 #[.agg #[.int .i64 2, .slice a len cap, .int .i64 m, .int .i64 s]] w fun e w' => DigRes w (34 :: (esc bs ++ [34])) e w' := by
 obtain ⟨i0, hi0, hzz⟩ := Option.map_eq_some_iff.1 Tryz.info5
 simp only [Prod.mk.injEq] at hzz
 obtain ⟨hi2, hi1, hi3⟩ := hzz
 have hlen := hB.1
 have h20 := hB.2.1
 have hsz : (w.alloc (.cells #[.int .i64 2, .slice a len cap, .int .i64 m, .int .i64 s] 93)).heap.size = w.heap.size + 1 := by simp
 have HR0 : Hd (Row8 ((w.alloc (.cells #[.int .i64 2, .slice a len cap, .int .i64 m, .int .i64 s] 93)).alloc (.cells #[.int .u8 34] 5)) (w.heap.size + 1) (w.heap.size + 1) 1 1 [34]) := by
  have := Row8.new (w.alloc (.cells #[.int .i64 2, .slice a len cap, .int .i64 m, .int .i64 s] 93)) 34
  rwa [hsz] at this
 have HB0 : Hd (Below (w.heap.size + 1) (w.alloc (.cells #[.int .i64 2, .slice a len cap, .int .i64 m, .int .i64 s] 93)) ((w.alloc (.cells #[.int .i64 2, .slice a len cap, .int .i64 m, .int .i64 s] 93)).alloc (.cells #[.int .u8 34] 5))) := by
  have := bl_a (w := (w.alloc (.cells #[.int .i64 2, .slice a len cap, .int .i64 m, .int .i64 s] 93))) (.cells #[.int .u8 34] 5)
  rwa [Bl, hsz] at this
 have HX : Hd (∀ wr, Below (w.heap.size + 1) (w.alloc (.cells #[.int .i64 2, .slice a len cap, .int .i64 m, .int .i64 s] 93)) wr → wr.cell? ⟨w.heap.size, 1, none⟩ = some (.slice a len cap)) := fun wr h => (h.cell (p := ⟨w.heap.size, 1, none⟩) (Nat.lt_succ_self _)).trans (by simp [go_sem])
 have HW := iH (fun wr (h : Below (w.heap.size + 1) _ wr) => (bl_a (w := w) (.cells #[.int .i64 2, .slice a len cap, .int .i64 m, .int .i64 s] 93)).trans (h.mono (Nat.le_succ _)))
 have HBs := iH hB
 have HL := iH hlen
 clear hB hlen hsz
 go_in
 go_wp2_with fail
 go_loopw [3, 4] (fun x i wr => ∃ (k g n cap' : Nat), k ≤ len ∧ i = .int .i64 k ∧ x = .slice (some ⟨g, 0, none⟩) n cap' ∧ n ≤ 1 + 2 * k ∧ Hd (Row8 wr (w.heap.size + 1) g n cap' (34 :: esc (bs.take k))) ∧ Hd (Below (w.heap.size + 1) (w.alloc (.cells #[.int .i64 2, .slice a len cap, .int .i64 m, .int .i64 s] 93)) wr))
  (fun _ i _ => len - (intOf i).toNat)
 case atStart => exact ⟨0, w.heap.size + 1, 1, 1, nZ, rfl, rfl, by omega, HR0, HB0⟩
 obtain ⟨k, g, n, cap', hk, rfl, rfl, hn, HR, HB⟩ := hrel
 have hbox := HX.o wr HB.o
 clear HR0 HB0
 by_cases hlk : k < len
 · obtain ⟨b, off, rfl, hbl, hc⟩ := HBs.o.2.2.2.resolve_left (by omega)
   have hx := ((HW.o wr HB.o).cell (p := ⟨b, off + k, none⟩) hbl).trans (hc k hlk)
   have HXV := iH (fun wr (h : Below _ _ wr) => ((HW.o wr h).cell (p := ⟨b, off + k, none⟩) hbl).trans (hc k hlk))
   have HE : Hd (esc (bs.take (k + 1)) = esc (bs.take k) ++ (if bs[k]?.getD 0 = 34 ∨ bs[k]?.getD 0 = 92 then [92, bs[k]?.getD 0] else [bs[k]?.getD 0])) := by
    show _ = _
    rw [take_snoc bs k (by have := HL.o; omega), esc_snoc]
   clear hc
   generalize bs[k]?.getD 0 = v at *
   have HR1 : ∀ y : Int, Hd (Row8 (wr.alloc (.cells #[.int .u8 y] 5)) (w.heap.size + 1) g n cap' (34 :: esc (bs.take k))) := fun y => HR.o.below (bl_a _)
   have HB1 : ∀ y : Int, Hd (Below (w.heap.size + 1) (w.alloc (.cells #[.int .i64 2, .slice (some ⟨b, off, none⟩) len cap, .int .i64 m, .int .i64 s] 93)) (wr.alloc (.cells #[.int .u8 y] 5))) := fun y => HB.o.alloc (Nat.le_trans (by simp) HB.o.size) _
   by_cases hq : v = 34 ∨ v = 92
   · have HE' : Hd (esc (bs.take (k + 1)) = esc (bs.take k) ++ [92, v]) := by show _ = _; rw [HE.o, if_pos hq]
     clear HE
     have hor : ((v == 34) || (v == 92)) = true := by simpa using hq
     cases h34 : (v == 34)
     · have h92 : (v == 92) = true := by simpa [h34] using hor
       clear hq hor
       have hs1 : (w.heap.size + 1) ≤ (wr.alloc (.cells #[.int .u8 92] 5)).heap.size := Nat.le_trans (by simp) (HB1 92).o.size
       go_wp2_with (first
        | (refine wpList_append_lies _ rfl (.tmp 47) (.tmp 48) 42 rfl (w.heap.size + 1) 5 i0 (.int .u8 0) 1 1 Tryz.underlying42 hi0 hi2 hi1 hi3 rfl (by omega) (.slice (some ⟨g, 0, none⟩) n cap') n ((34 :: esc (bs.take k)).map (Value.int .u8)) rfl (HR1 92).o.1 ⟨wr.heap.size, 0, none⟩ 1 _ [.int .u8 92] rfl rfl (one_news wr 92) (by simp [Value.oneCell']) (by omega) (by unfold maxLen; omega) (by omega) hs1 _ rfl ?_; intro g3 cap3 w3 hown3 hgr3 hgg3 hlt3; have hr3 : Row8 w3 (w.heap.size + 1) g3 (n + 1) cap3 ((34 :: esc (bs.take k)) ++ [92]) := Row8.grown (us := 34 :: esc (bs.take k)) (bs := [92]) hown3 rfl hlt3; have hb3 := (HB1 92).o.trans (grown_below (g := g) hgr3 HR.o.ge hs1); have hbox3 := HX.o w3 hb3; have hx3 := HXV.o w3 hb3; clear hown3 hgr3 hgg3; have HR3 : Hd (Row8 (w3.alloc (.cells #[.int .u8 v] 5)) (w.heap.size + 1) g3 (n + 1) cap3 ((34 :: esc (bs.take k)) ++ [92])) := hr3.below (bl_a _); have HB3' := hb3.alloc (Nat.le_trans (by simp) hb3.size) (.cells #[.int .u8 v] 5); have hs3 : (w.heap.size + 1) ≤ (w3.alloc (.cells #[.int .u8 v] 5)).heap.size := Nat.le_trans (by simp) HB3'.size; have HB3 : Hd (Below (w.heap.size + 1) (w.alloc (.cells #[.int .i64 2, .slice (some ⟨b, off, none⟩) len cap, .int .i64 m, .int .i64 s] 93)) (w3.alloc (.cells #[.int .u8 v] 5))) := HB3'; clear hr3 hb3 HB3')
        | (refine wpList_append_lies _ rfl (.tmp 50) (.tmp 56) 42 rfl (w.heap.size + 1) 5 i0 (.int .u8 0) 1 1 Tryz.underlying42 hi0 hi2 hi1 hi3 rfl (by omega) (.slice (some ⟨g3, 0, none⟩) (n + 1) cap3) (n + 1) (((34 :: esc (bs.take k)) ++ [92]).map (Value.int .u8)) rfl HR3.o.1 ⟨w3.heap.size, 0, none⟩ 1 _ [.int .u8 v] rfl rfl (one_news w3 v) (by simp [Value.oneCell']) (by omega) (by unfold maxLen; omega) (by omega) hs3 _ rfl ?_; intro g4 cap4 w4 hown4 hgr4 hgg4 hlt4; have HR4 : Hd (Row8 w4 (w.heap.size + 1) g4 (n + 1 + 1) cap4 (((34 :: esc (bs.take k)) ++ [92]) ++ [v])) := Row8.grown (us := (34 :: esc (bs.take k)) ++ [92]) (bs := [v]) hown4 rfl hlt4; have HB4' := HB3.o.trans (grown_below (g := g3) hgr4 HR3.o.ge hs3); have HB4 : Hd (Below (w.heap.size + 1) (w.alloc (.cells #[.int .i64 2, .slice (some ⟨b, off, none⟩) len cap, .int .i64 m, .int .i64 s] 93)) w4) := HB4'; clear hown4 hgr4 hgg4 HB4'))
       go_roundw
       case rel =>
        refine ⟨k + 1, g4, n + 1 + 1, cap4, by omega, by go_num, rfl, by omega, ?_, HB4⟩
        have h := HR4.o
        show Row8 _ _ _ _ _ _
        rw [HE'.o]
        simpa using h
       case measure => simp [intOf]; omega
     clear hq hor
     have hs1 : (w.heap.size + 1) ≤ (wr.alloc (.cells #[.int .u8 92] 5)).heap.size := Nat.le_trans (by simp) (HB1 92).o.size
     go_wp2_with (first
      | (refine wpList_append_lies _ rfl (.tmp 47) (.tmp 48) 42 rfl (w.heap.size + 1) 5 i0 (.int .u8 0) 1 1 Tryz.underlying42 hi0 hi2 hi1 hi3 rfl (by omega) (.slice (some ⟨g, 0, none⟩) n cap') n ((34 :: esc (bs.take k)).map (Value.int .u8)) rfl (HR1 92).o.1 ⟨wr.heap.size, 0, none⟩ 1 _ [.int .u8 92] rfl rfl (one_news wr 92) (by simp [Value.oneCell']) (by omega) (by unfold maxLen; omega) (by omega) hs1 _ rfl ?_; intro g3 cap3 w3 hown3 hgr3 hgg3 hlt3; have hr3 : Row8 w3 (w.heap.size + 1) g3 (n + 1) cap3 ((34 :: esc (bs.take k)) ++ [92]) := Row8.grown (us := 34 :: esc (bs.take k)) (bs := [92]) hown3 rfl hlt3; have hb3 := (HB1 92).o.trans (grown_below (g := g) hgr3 HR.o.ge hs1); have hbox3 := HX.o w3 hb3; have hx3 := HXV.o w3 hb3; clear hown3 hgr3 hgg3; have HR3 : Hd (Row8 (w3.alloc (.cells #[.int .u8 v] 5)) (w.heap.size + 1) g3 (n + 1) cap3 ((34 :: esc (bs.take k)) ++ [92])) := hr3.below (bl_a _); have HB3' := hb3.alloc (Nat.le_trans (by simp) hb3.size) (.cells #[.int .u8 v] 5); have hs3 : (w.heap.size + 1) ≤ (w3.alloc (.cells #[.int .u8 v] 5)).heap.size := Nat.le_trans (by simp) HB3'.size; have HB3 : Hd (Below (w.heap.size + 1) (w.alloc (.cells #[.int .i64 2, .slice (some ⟨b, off, none⟩) len cap, .int .i64 m, .int .i64 s] 93)) (w3.alloc (.cells #[.int .u8 v] 5))) := HB3'; clear hr3 hb3 HB3')
      | (refine wpList_append_lies _ rfl (.tmp 50) (.tmp 56) 42 rfl (w.heap.size + 1) 5 i0 (.int .u8 0) 1 1 Tryz.underlying42 hi0 hi2 hi1 hi3 rfl (by omega) (.slice (some ⟨g3, 0, none⟩) (n + 1) cap3) (n + 1) (((34 :: esc (bs.take k)) ++ [92]).map (Value.int .u8)) rfl HR3.o.1 ⟨w3.heap.size, 0, none⟩ 1 _ [.int .u8 v] rfl rfl (one_news w3 v) (by simp [Value.oneCell']) (by omega) (by unfold maxLen; omega) (by omega) hs3 _ rfl ?_; intro g4 cap4 w4 hown4 hgr4 hgg4 hlt4; have HR4 : Hd (Row8 w4 (w.heap.size + 1) g4 (n + 1 + 1) cap4 (((34 :: esc (bs.take k)) ++ [92]) ++ [v])) := Row8.grown (us := (34 :: esc (bs.take k)) ++ [92]) (bs := [v]) hown4 rfl hlt4; have HB4' := HB3.o.trans (grown_below (g := g3) hgr4 HR3.o.ge hs3); have HB4 : Hd (Below (w.heap.size + 1) (w.alloc (.cells #[.int .i64 2, .slice (some ⟨b, off, none⟩) len cap, .int .i64 m, .int .i64 s] 93)) w4) := HB4'; clear hown4 hgr4 hgg4 HB4'))
     go_roundw
     case rel =>
      refine ⟨k + 1, g4, n + 1 + 1, cap4, by omega, by go_num, rfl, by omega, ?_, HB4⟩
      have h := HR4.o
      show Row8 _ _ _ _ _ _
      rw [HE'.o]
      simpa using h
     case measure => simp [intOf]; omega
   have HE' : Hd (esc (bs.take (k + 1)) = esc (bs.take k) ++ [v]) := by show _ = _; rw [HE.o, if_neg hq]
   have h34 : (v == 34) = false := by simp; omega
   have h92 : (v == 92) = false := by simp; omega
   clear HE hq
   have hs1 : (w.heap.size + 1) ≤ (wr.alloc (.cells #[.int .u8 v] 5)).heap.size := Nat.le_trans (by simp) (HB1 v).o.size
   go_wp2_with (refine wpList_append_lies _ rfl (.tmp 50) (.tmp 56) 42 rfl (w.heap.size + 1) 5 i0 (.int .u8 0) 1 1 Tryz.underlying42 hi0 hi2 hi1 hi3 rfl (by omega) (.slice (some ⟨g, 0, none⟩) n cap') n ((34 :: esc (bs.take k)).map (Value.int .u8)) rfl (HR1 v).o.1 ⟨wr.heap.size, 0, none⟩ 1 _ [.int .u8 v] rfl rfl (one_news wr v) (by simp [Value.oneCell']) (by omega) (by unfold maxLen; omega) (by omega) hs1 _ rfl ?_; intro g4 cap4 w4 hown4 hgr4 hgg4 hlt4; have HR4 : Hd (Row8 w4 (w.heap.size + 1) g4 (n + 1) cap4 ((34 :: esc (bs.take k)) ++ [v])) := Row8.grown (us := 34 :: esc (bs.take k)) (bs := [v]) hown4 rfl hlt4; have HB4' := (HB1 v).o.trans (grown_below (g := g) hgr4 HR.o.ge hs1); have HB4 : Hd (Below (w.heap.size + 1) (w.alloc (.cells #[.int .i64 2, .slice (some ⟨b, off, none⟩) len cap, .int .i64 m, .int .i64 s] 93)) w4) := HB4'; clear hown4 hgr4 hgg4 HB4')
   go_roundw
   case rel =>
    refine ⟨k + 1, g4, n + 1, cap4, by omega, by go_num, rfl, by omega, ?_, HB4⟩
    have := HR4.o
    show Row8 _ _ _ _ _ _
    rw [HE'.o]
    exact this
   case measure => simp [intOf]; omega
 obtain rfl : k = len := by omega
 have HR' : Hd (Row8 wr (w.heap.size + 1) g n cap' (34 :: esc bs)) := by
  have := HR.o
  rwa [List.take_of_length_le (by have := HL.o; omega)] at this
 have HR1 : Hd (Row8 (wr.alloc (.cells #[.int .u8 34] 5)) (w.heap.size + 1) g n cap' (34 :: esc bs)) := HR'.o.below (bl_a _)
 have HB1 : Hd (Below (w.heap.size + 1) (w.alloc (.cells #[.int .i64 2, .slice a k cap, .int .i64 m, .int .i64 s] 93)) (wr.alloc (.cells #[.int .u8 34] 5))) := HB.o.alloc (Nat.le_trans (by simp) HB.o.size) _
 have hs1 : (w.heap.size + 1) ≤ (wr.alloc (.cells #[.int .u8 34] 5)).heap.size := Nat.le_trans (by simp) HB1.o.size
 have HNL : Hd (n = (34 :: esc bs : List Int).length) := by
  have := HR'.o.1.1
  show _ = _
  simpa using this.symm
 clear HR
 go_wp2_with (refine wpList_append_lies _ rfl (.tmp 58) (.tmp 59) 42 rfl (w.heap.size + 1) 5 i0 (.int .u8 0) 1 1 Tryz.underlying42 hi0 hi2 hi1 hi3 rfl (by omega) (.slice (some ⟨g, 0, none⟩) n cap') n ((34 :: esc bs).map (Value.int .u8)) rfl HR1.o.1 ⟨wr.heap.size, 0, none⟩ 1 _ [.int .u8 34] rfl rfl (one_news wr 34) (by simp [Value.oneCell']) (by omega) (by unfold maxLen; omega) (by omega) hs1 _ rfl ?_; intro g4 cap4 w4 hown4 hgr4 hgg4 hlt4; have hr4 := (Row8.grown (us := 34 :: esc bs) (bs := [34]) hown4 rfl hlt4).mono (B' := w.heap.size) (Nat.le_succ _); have hb4 := HB1.o.trans (grown_below (g := g) hgr4 HR'.o.ge hs1); clear hown4 hgr4 hgg4)
 go_ret
 have el : (34 :: (esc bs ++ [34]) : List Int).length = n + 1 := by rw [HNL.o]; simp
 exact ⟨g4, cap4, by rw [el]; rfl, by rw [el]; exact hr4, HW.o _ hb4⟩
theorem grown_row {w4 : World} {B B' n : Nat} {v : Value} {us bs : List Int} (h : w4.ownsRow B' 5 1 v n (us.map (Value.int .u8) ++ bs.map (Value.int .u8))) (hn : 1 ≤ n) (hB : B ≤ B') :
 ∃ g cap, v = .slice (some ⟨g, 0, none⟩) n cap ∧ Row8 w4 B g n cap (us ++ bs) := by
 obtain ⟨h1, h2⟩ := h
 rw [← List.map_append] at h1 h2
 rcases h2 with ⟨_, h2⟩ | ⟨g, cap, cur, hv, hg, hh, hc⟩
 · omega
 refine ⟨g, cap, hv, ⟨h1, .inr ⟨g, cap, cur, rfl, Nat.le_trans hB hg, hh, hc⟩⟩, ?_⟩
 apply Classical.byContradiction
 intro hlt
 rw [Array.getElem?_eq_none (by omega)] at hh
 cases hh
theorem l1show_blank (n : Nat) (s : Int) (a : Option Addr) (len cap : Nat) (w : World) (hn : n ≤ 9223372036854775807) :
 Calls Tryz.prog 99 #[.agg #[.int .i64 1, .slice a len cap, .int .i64 n, .int .i64 s]] w fun e w' => DigRes w (95 :: 58 :: digitsL n) e w' := by
 obtain ⟨i0, hi0, hzz⟩ := Option.map_eq_some_iff.1 Tryz.info5
 simp only [Prod.mk.injEq] at hzz
 obtain ⟨hi2, hi1, hi3⟩ := hzz
 have D := fun w => l1digits_any n w hn
 have hcv := fun o => Go.Joins.run_convert_bytes_const_at (P := Tryz.prog) (w.alloc o) 42 5 #[.int .u8 95, .int .u8 58] 2 2 (w.heap.size + 1) (by simp) Tryz.underlying42 Tryz.underlying5
 have hL := digitsL_len 19 n (by omega)
 have hp := digitsL_pos n
 have HO : Hd (∀ o j u, [Value.int .u8 95, Value.int .u8 58][j]? = some u → ((w.alloc o).alloc (.cells #[.int .u8 95, .int .u8 58] 5 (2, 3))).cell? ((⟨w.heap.size + 1, 0, none⟩ : Addr).add j) = some u) := by
  intro o j u hj
  have ea : (⟨w.heap.size + 1, 0, none⟩ : Addr).add j = ⟨w.heap.size + 1, j, none⟩ := by
   by_cases h0 : j = 0 <;> simp [Addr.add, h0]
  rw [ea, Go.Joins.cell_alloc_mark_at _ _ _ _ _ _ (by simp), ← hj]
  simp
 generalize digitsL n = ds at *
 go_in
 go_wp2_with fail
 refine (D _).mono ?_
 rintro e w3 ⟨g3, cap3, rfl, hr3, hb3⟩
 have HO3 : Hd (∀ j u, [Value.int .u8 95, Value.int .u8 58][j]? = some u → w3.cell? ((⟨w.heap.size + 1, 0, none⟩ : Addr).add j) = some u) := by
  intro j u hj
  have ea : (⟨w.heap.size + 1, 0, none⟩ : Addr).add j = ⟨w.heap.size + 1, j, none⟩ := by
   by_cases h0 : j = 0 <;> simp [Addr.add, h0]
  have := fun o => HO.o o j u hj
  simp only [ea] at this ⊢
  rw [hb3.cell (by simp)]
  exact this _
 have HB3 := iH (bl_trans (bl_alloc (bl_a _) _) hb3)
 have HN3 := iH hr3.news
 clear hr3 hb3 HO D hcv
 go_wp2_with (refine wpList_append_grows _ rfl (.tmp 18) (.tmp 21) 42 rfl 5 i0 (.int .u8 0) 1 1 Tryz.underlying42 hi0 hi2 hi1 hi3 rfl (by omega) (some ⟨w.heap.size + 1, 0, none⟩) 2 2 [.int .u8 95, .int .u8 58] rfl (by simp) rfl (fun b hb => by cases hb; exact HO3.o) ⟨g3, 0, none⟩ ds.length _ (ds.map (Value.int .u8)) rfl (by simp) HN3.o (by intro u hu; simp only [List.mem_map] at hu; obtain ⟨q, _, rfl⟩ := hu; rfl) (by omega) (by unfold maxLen; omega) (by omega) ?_; intro v4 w4 hown4 hgr4; have H4 : Hd (∃ g4 cap4, v4 = .slice (some ⟨g4, 0, none⟩) (2 + ds.length) cap4 ∧ Row8 w4 w.heap.size g4 (2 + ds.length) cap4 (95 :: 58 :: ds)) := grown_row (us := [95, 58]) (bs := ds) hown4 (by omega) HB3.o.size; have HB4 : Hd (Bl w w4) := HB3.o.trans ⟨hgr4.os, hgr4.tape, hgr4.output, hgr4.size, fun b hb => hgr4.block b (Nat.lt_of_lt_of_le hb HB3.o.size) (by simp)⟩; clear hown4 hgr4; obtain ⟨g4, cap4, rfl, hr4⟩ := H4.o)
 go_ret
 have el : (95 :: 58 :: ds : List Int).length = 2 + ds.length := by simp; omega
 exact ⟨g4, cap4, by rw [el]; rfl, by rw [el]; exact hr4, HB4.o⟩
theorem l1digits_int (k : Int) (w : World) (h0 : 0 ≤ k) (h1 : k ≤ 9223372036854775807) : Calls Tryz.prog 69 #[.int .i64 k] w fun e w' => DigRes w (digitsL k.toNat) e w' := by
 have := l1digits_any k.toNat w (by omega)
 rwa [Int.toNat_of_nonneg h0] at this
def numL (n : Int) (s : Nat) : List Int :=
 digitsL (n / p10 s).toNat ++ (if s = 0 then [] else 46 :: (List.replicate (s - (digitsL (n % p10 s).toNat).length) 48 ++ digitsL (n % p10 s).toNat))
theorem below_nil {w w' : World} {B : Nat} (h : w.grownBy w' none) (hw : B ≤ w.heap.size) : Below B w w' :=
 ⟨h.os, h.tape, h.output, h.size, fun b hb => h.block b (by omega) (by simp)⟩
theorem news_grown {w w' : World} {g g' : Nat} {vs : List Value} (h : w.grownBy w' (some g)) (hne : g' ≠ g) (hl : g' < w.heap.size) (hc : ∀ j u, vs[j]? = some u → w.cell? ((⟨g', 0, none⟩ : Addr).add j) = some u) :
 ∀ j u, vs[j]? = some u → w'.cell? ((⟨g', 0, none⟩ : Addr).add j) = some u := by
 intro j u hj
 have hb : ((⟨g', 0, none⟩ : Addr).add j).block = g' := by
  by_cases h0 : j = 0 <;> simp [Addr.add, h0]
 rw [World.cell?_of_block (h.block _ (by rw [hb]; exact hl) (by rw [hb]; simpa using hne))]
 exact hc j u hj
theorem news_alloc {w : World} {g' : Nat} {vs : List Value} (o : Obj) (hl : g' < w.heap.size) (hc : ∀ j u, vs[j]? = some u → w.cell? ((⟨g', 0, none⟩ : Addr).add j) = some u) :
 ∀ j u, vs[j]? = some u → (w.alloc o).cell? ((⟨g', 0, none⟩ : Addr).add j) = some u := by
 intro j u hj
 have hb : ((⟨g', 0, none⟩ : Addr).add j).block = g' := by
  by_cases h0 : j = 0 <;> simp [Addr.add, h0]
 rw [(bl_a (w := w) o).cell (by rw [hb]; exact hl)]
 exact hc j u hj
theorem far {gx g6 g5 H nx cx : Nat} (h : (Value.slice (some ⟨gx, 0, none⟩) nx cx).ownBlock = some g6 ∨ g6 = H) (hne : gx ≠ g5) (hl : g5 < H) : g6 ≠ g5 := by
 rcases h with h | h
 · have : gx = g6 := by simpa [Value.ownBlock] using h
   omega
 omega
theorem l1number_pos (n : Int) (s : Nat) (a : Option Addr) (len cap : Nat) (w : World) (hs : s ≤ 6) (hn : 0 ≤ n) (hn' : n ≤ 9223372036854775807) :
 Calls Tryz.prog 135 #[.agg #[.int .i64 3, .slice a len cap, .int .i64 n, .int .i64 s]] w fun e w' => DigRes w (numL n s) e w' := by
 obtain ⟨i0, hi0, hzz⟩ := Option.map_eq_some_iff.1 Tryz.info5
 simp only [Prod.mk.injEq] at hzz
 obtain ⟨hi2, hi1, hi3⟩ := hzz
 have P := fun w => l1pow_any s w hs
 have hp := p10_pos s
 have hp6 := p10_le hs
 have d0 : 0 ≤ n / p10 s := Int.ediv_nonneg hn (by omega)
 have d1 : n / p10 s ≤ n := Int.ediv_le_self _ hn
 have m0 : 0 ≤ n % p10 s := Int.emod_nonneg _ (by omega)
 have m1 : n % p10 s < p10 s := Int.emod_lt_of_pos _ (by omega)
 have D1 := fun w => l1digits_int (n / p10 s) w d0 (by omega)
 have D2 := fun w => l1digits_int (n % p10 s) w m0 (by omega)
 have hL1 := digitsL_len 19 (n / p10 s).toNat (by omega)
 have hL2 := digitsL_len 6 (n % p10 s).toNat (by omega)
 have hq1 := digitsL_pos (n / p10 s).toNat
 have hq2 := digitsL_pos (n % p10 s).toNat
 unfold numL
 generalize digitsL (n / p10 s).toNat = d at *
 generalize digitsL (n % p10 s).toNat = f at *
 go_in
 go_wp2_with fail
 refine (P _).mono ?_
 rintro e w1 ⟨rfl, rfl⟩
 go_wp2_with fail
 refine (D1 _).mono ?_
 rintro e w2 ⟨g2, cap2, rfl, hr2, hb2⟩
 have hsz : (w.alloc (.cells #[.int .i64 3, .slice a len cap, .int .i64 n, .int .i64 s] 93)).heap.size = w.heap.size + 1 := by simp
 rw [hsz] at hr2 hb2
 have HX : Hd (∀ wr, Below (w.heap.size + 1) (w.alloc (.cells #[.int .i64 3, .slice a len cap, .int .i64 n, .int .i64 s] 93)) wr → wr.cell? ⟨w.heap.size, 3, none⟩ = some (.int .i64 s)) := fun wr h => (h.cell (p := ⟨w.heap.size, 3, none⟩) (Nat.lt_succ_self _)).trans (by simp [go_sem])
 have HW := iH (fun wr (h : Below (w.heap.size + 1) _ wr) => (bl_a (w := w) (.cells #[.int .i64 3, .slice a len cap, .int .i64 n, .int .i64 s] 93)).trans (h.mono (Nat.le_succ _)))
 have HN2 := iH hr2.news
 have HB2 := iH hb2
 have hs2 : (w.heap.size + 1) ≤ w2.heap.size := by have := hb2.size; rwa [hsz] at this
 clear hr2 hb2 hsz D1
 by_cases hs0 : s = 0
 · go_wp2_with (refine wpList_append_lies _ rfl (.tmp 16) (.tmp 22) 42 rfl (w.heap.size + 1) 5 i0 (.int .u8 0) 1 1 Tryz.underlying42 hi0 hi2 hi1 hi3 rfl (by omega) (.slice none 0 0) 0 [] rfl (World.ownsRow_nil _ _ _ _) ⟨g2, 0, none⟩ d.length _ (d.map (Value.int .u8)) rfl (by simp) HN2.o (oneCell_map d) (by omega) (by unfold maxLen; omega) (by omega) hs2 _ rfl ?_; intro g3 cap3 w3 hown3 hgr3 hgg3 hlt3; have HR3' : Row8 w3 (w.heap.size + 1) g3 (0 + d.length) cap3 ([] ++ d) := Row8.grown (us := []) (bs := d) hown3 rfl hlt3; rw [Nat.zero_add, List.nil_append] at HR3'; have hb3 := HB2.o.trans (below_nil (B := (w.heap.size + 1)) hgr3 hs2); have HR3 : Hd (Row8 w3 (w.heap.size + 1) g3 d.length cap3 d) := HR3'; have HB3 : Hd (Below (w.heap.size + 1) (w.alloc (.cells #[.int .i64 3, .slice a len cap, .int .i64 n, .int .i64 s] 93)) w3) := hb3; have hx3 := HX.o w3 hb3; clear hown3 hgr3 hgg3 hb3 HR3')
   go_ret
   exact ⟨g3, cap3, rfl, HR3.o.mono (B' := w.heap.size) (Nat.le_succ _), HW.o _ HB3.o⟩
 go_wp2_with (first | (refine wpList_append_lies _ rfl (.tmp 16) (.tmp 22) 42 rfl (w.heap.size + 1) 5 i0 (.int .u8 0) 1 1 Tryz.underlying42 hi0 hi2 hi1 hi3 rfl (by omega) (.slice none 0 0) 0 [] rfl (World.ownsRow_nil _ _ _ _) ⟨g2, 0, none⟩ d.length _ (d.map (Value.int .u8)) rfl (by simp) HN2.o (oneCell_map d) (by omega) (by unfold maxLen; omega) (by omega) hs2 _ rfl ?_; intro g3 cap3 w3 hown3 hgr3 hgg3 hlt3; have HR3' : Row8 w3 (w.heap.size + 1) g3 (0 + d.length) cap3 ([] ++ d) := Row8.grown (us := []) (bs := d) hown3 rfl hlt3; rw [Nat.zero_add, List.nil_append] at HR3'; have hb3 := HB2.o.trans (below_nil (B := (w.heap.size + 1)) hgr3 hs2); have HR3 : Hd (Row8 w3 (w.heap.size + 1) g3 d.length cap3 d) := HR3'; have HB3 : Hd (Below (w.heap.size + 1) (w.alloc (.cells #[.int .i64 3, .slice a len cap, .int .i64 n, .int .i64 s] 93)) w3) := hb3; have hx3 := HX.o w3 hb3; clear hown3 hgr3 hgg3 hb3 HR3'; have HR3a : Hd (Row8 (w3.alloc (.cells #[.int .u8 46] 5)) (w.heap.size + 1) g3 d.length cap3 d) := HR3.o.below (bl_a _); have HB3a : Hd (Below (w.heap.size + 1) (w.alloc (.cells #[.int .i64 3, .slice a len cap, .int .i64 n, .int .i64 s] 93)) (w3.alloc (.cells #[.int .u8 46] 5))) := HB3.o.alloc (Nat.le_trans (by simp) HB3.o.size) _; have hs3a : (w.heap.size + 1) ≤ (w3.alloc (.cells #[.int .u8 46] 5)).heap.size := Nat.le_trans (by simp) HB3a.o.size) | (refine wpList_append_lies _ rfl (.tmp 28) (.tmp 29) 42 rfl (w.heap.size + 1) 5 i0 (.int .u8 0) 1 1 Tryz.underlying42 hi0 hi2 hi1 hi3 rfl (by omega) (.slice (some ⟨g3, 0, none⟩) d.length cap3) d.length ((d).map (Value.int .u8)) rfl HR3a.o.1 ⟨w3.heap.size, 0, none⟩ 1 _ [.int .u8 46] rfl rfl (one_news w3 46) (by simp [Value.oneCell']) (by omega) (by unfold maxLen; omega) (by omega) hs3a _ rfl ?_; intro g4 cap4 w4 hown4 hgr4 hgg4 hlt4; have HR4' : Row8 w4 (w.heap.size + 1) g4 (d.length + 1) cap4 (d ++ [46]) := Row8.grown (us := d) (bs := [46]) hown4 rfl hlt4; have hb4 := HB3a.o.trans (grown_below (g := g3) hgr4 HR3.o.ge hs3a); have HR4 : Hd (Row8 w4 (w.heap.size + 1) g4 (d.length + 1) cap4 (d ++ [46])) := HR4'; have HB4 : Hd (Below (w.heap.size + 1) (w.alloc (.cells #[.int .i64 3, .slice a len cap, .int .i64 n, .int .i64 s] 93)) w4) := hb4; have hx4 := HX.o w4 hb4; clear hown4 hgr4 hgg4 hb4 HR4' HR3a HB3a hs3a))
 refine (P _).mono ?_
 rintro e w4 ⟨rfl, rfl⟩
 go_wp2_with fail
 refine (D2 _).mono ?_
 rintro e w5 ⟨g5, cap5, rfl, hr5, hb5⟩
 have hs4 : (w.heap.size + 1) ≤ w4.heap.size := Nat.le_trans (by simp) HB4.o.size
 have HR5 := iH (HR4.o.below hb5)
 have HB5 := iH (HB4.o.trans (hb5.mono hs4))
 have HF5 := iH hr5.news
 have hg5 := hr5.2
 have hne5 : g4 ≠ g5 := by have := HR4.o.2; have := hr5.ge; omega
 have hx5 := HX.o w5 HB5.o
 clear hr5 hb5 HR4 HB4 HR3 HB3 HB2 HN2 D2 P
 go_wp2_with fail
 go_loopw [3, 6] (fun x i wr => ∃ (k gx nx cx : Nat), f.length ≤ k ∧ (k ≤ s ∨ k = f.length) ∧ i = .int .i64 k ∧ x = .slice (some ⟨gx, 0, none⟩) nx cx ∧ nx = d.length + 1 + (k - f.length) ∧ gx ≠ g5 ∧ g5 < wr.heap.size ∧ Hd (Row8 wr (w.heap.size + 1) gx nx cx (d ++ 46 :: List.replicate (k - f.length) 48)) ∧ Hd (Below (w.heap.size + 1) (w.alloc (.cells #[.int .i64 3, .slice a len cap, .int .i64 n, .int .i64 s] 93)) wr) ∧ Hd (∀ j u, (f.map (Value.int .u8))[j]? = some u → wr.cell? ((⟨g5, 0, none⟩ : Addr).add j) = some u))
  (fun _ i _ => s - (intOf i).toNat)
 case atStart => exact ⟨f.length, g4, d.length + 1, cap4, nR, .inr rfl, rfl, rfl, by omega, hne5, hg5, by simpa using HR5, HB5, HF5⟩
 obtain ⟨k, gx, nx, cx, hk, hks, rfl, rfl, hnx, hne, hg, HR, HB, HF⟩ := hrel
 have hbox := HX.o wr HB.o
 have HNX := iH hnx
 have hnb : nx ≤ 40 := by omega
 clear hnx
 clear HR5 HB5 HF5 hg5 hne5 hx5
 by_cases hlt : k < s
 · have HR1 : Hd (Row8 (wr.alloc (.cells #[.int .u8 48] 5)) (w.heap.size + 1) gx nx cx (d ++ 46 :: List.replicate (k - f.length) 48)) := HR.o.below (bl_a _)
   have HB1 : Hd (Below (w.heap.size + 1) (w.alloc (.cells #[.int .i64 3, .slice a len cap, .int .i64 n, .int .i64 s] 93)) (wr.alloc (.cells #[.int .u8 48] 5))) := HB.o.alloc (Nat.le_trans (by simp) HB.o.size) _
   have hs1 : (w.heap.size + 1) ≤ (wr.alloc (.cells #[.int .u8 48] 5)).heap.size := Nat.le_trans (by simp) HB1.o.size
   have HF1 : Hd (∀ j u, (f.map (Value.int .u8))[j]? = some u → (wr.alloc (.cells #[.int .u8 48] 5)).cell? ((⟨g5, 0, none⟩ : Addr).add j) = some u) := news_alloc _ hg HF.o
   have hg1 : g5 < (wr.alloc (.cells #[.int .u8 48] 5)).heap.size := by simp; omega
   go_wp2_with (refine wpList_append_lies _ rfl (.tmp 45) (.tmp 46) 42 rfl (w.heap.size + 1) 5 i0 (.int .u8 0) 1 1 Tryz.underlying42 hi0 hi2 hi1 hi3 rfl (by omega) (.slice (some ⟨gx, 0, none⟩) nx cx) nx ((d ++ 46 :: List.replicate (k - f.length) 48).map (Value.int .u8)) rfl HR1.o.1 ⟨wr.heap.size, 0, none⟩ 1 _ [.int .u8 48] rfl rfl (one_news wr 48) (by simp [Value.oneCell']) (by omega) (by unfold maxLen; omega) (by omega) hs1 _ rfl ?_; intro g6 cap6 w6 hown6 hgr6 hgg6 hlt6; have HR6 : Hd (Row8 w6 (w.heap.size + 1) g6 (nx + 1) cap6 ((d ++ 46 :: List.replicate (k - f.length) 48) ++ [48])) := Row8.grown (us := d ++ 46 :: List.replicate (k - f.length) 48) (bs := [48]) hown6 rfl hlt6; have hb6 := HB1.o.trans (grown_below (g := gx) hgr6 HR.o.ge hs1); have HB6 : Hd (Below (w.heap.size + 1) (w.alloc (.cells #[.int .i64 3, .slice a len cap, .int .i64 n, .int .i64 s] 93)) w6) := hb6; have HF6 : Hd (∀ j u, (f.map (Value.int .u8))[j]? = some u → w6.cell? ((⟨g5, 0, none⟩ : Addr).add j) = some u) := news_grown (g := gx) hgr6 (Ne.symm hne) hg1 HF1.o; have hg6 : g5 < w6.heap.size := Nat.lt_of_lt_of_le hg1 hgr6.size; have hne6 : g6 ≠ g5 := far hgg6 hne hg1; clear hown6 hgr6 hgg6 hb6 hlt6)
   go_roundw
   case rel =>
    refine ⟨k + 1, g6, nx + 1, cap6, by omega, by omega, by go_num, rfl, by have := HNX.o; omega, hne6, hg6, ?_, HB6, HF6⟩
    have h := HR6.o
    show Row8 _ _ _ _ _ _
    have e : k + 1 - f.length = (k - f.length) + 1 := by omega
    rw [e, List.replicate_succ']
    simpa using h
   case measure => simp [intOf]; omega
 have hs0' : (w.heap.size + 1) ≤ wr.heap.size := Nat.le_trans (by simp) HB.o.size
 go_wp2_with (refine wpList_append_lies _ rfl (.tmp 48) (.tmp 49) 42 rfl (w.heap.size + 1) 5 i0 (.int .u8 0) 1 1 Tryz.underlying42 hi0 hi2 hi1 hi3 rfl (by omega) (.slice (some ⟨gx, 0, none⟩) nx cx) nx ((d ++ 46 :: List.replicate (k - f.length) 48).map (Value.int .u8)) rfl HR.o.1 ⟨g5, 0, none⟩ f.length _ (f.map (Value.int .u8)) rfl (by simp) HF.o (oneCell_map f) (by omega) (by unfold maxLen; omega) (by omega) hs0' _ rfl ?_; intro g7 cap7 w7 hown7 hgr7 hgg7 hlt7; have HR7 : Hd (Row8 w7 (w.heap.size + 1) g7 (nx + f.length) cap7 ((d ++ 46 :: List.replicate (k - f.length) 48) ++ f)) := Row8.grown (us := d ++ 46 :: List.replicate (k - f.length) 48) (bs := f) hown7 rfl hlt7; have HB7 : Hd (Below (w.heap.size + 1) (w.alloc (.cells #[.int .i64 3, .slice a len cap, .int .i64 n, .int .i64 s] 93)) w7) := HB.o.trans (grown_below (g := gx) hgr7 HR.o.ge hs0'); clear hown7 hgr7 hgg7 hlt7)
 go_ret
 have e : k - f.length = s - f.length := by omega
 have h := HR7.o.mono (B' := w.heap.size) (Nat.le_succ _)
 rw [e] at h
 have el : (d ++ 46 :: (List.replicate (s - f.length) 48 ++ f) : List Int).length = nx + f.length := by have := HNX.o; simp; omega
 exact ⟨g7, cap7, by rw [el]; rfl, by rw [el]; simpa using h, HW.o _ HB7.o⟩
end Go.Proofs.YthljoojcpbignaaGreatDoor
