/- Texts put together: ShwG ShwH GraA GraC GraE -/
import Derived.Test.YtiodiooaaojbhaaGreatDoorNk06
import Derived.Test.YtiodiooaaojbhaaGreatDoorNk01
import Derived.Test.YtiodiooaaojbhaaGreatDoorNk03
import Derived.Test.YtiodiooaaojbhaaGreatDoorNk04
import Derived.Deep.RegionHeld3
/- ShwG -/
namespace Go.Proofs.YtiodiooaaojbhaaGreatDoor
open Go.RowKit Go.Deep
set_option maxRecDepth 100000

/-- append of bytes to a row of bytes of the call's own (or to none as yet): the row, and what is left of what was there. -/
theorem app8 {ops : Array Oper} {rest : List Oper} {o : Oper} {a : Act} {Q : Exit → Act → World → Prop} {w : World} (hgd : o.guard = none) (s x : Operand)
    (ho : o.op = .call { callee := .builtin .append, args := #[s, x], argTypes := #[22, 22] })
    (B : Nat) (v : Value) (n : Nat) (us : List Int) (hs : a.eval s = v) (HO : Hid (w.ownsRow B 5 1 v n (us.map (Value.int .u8))))
    (ad : Addr) (m c : Nat) (bs : List Int) (hx : a.eval x = .slice (some ad) m c) (hl : bs.length = m) (HN : Hid (∀ j u, (bs.map (Value.int .u8))[j]? = some u → w.cell? (ad.add j) = some u))
    (hm : 0 < m) (N : Nat) (hN : n + m = N) (zs : List Int) (hz : us ++ bs = zs) (hle : N ≤ 1000000000) (hB : B ≤ w.heap.size)
    (h : ∀ g cap w', Hid (Row8 w' B g N cap zs) → Hid (w.grownBy w' v.ownBlock) → Hid (v.ownBlock = some g ∨ g = w.heap.size) → Hid (Below B w w') → wpList Tryz.prog ops Q rest (a.put o.dst (.slice (some ⟨g, 0, none⟩) N cap)) w') :
    wpList Tryz.prog ops Q (o :: rest) a w := by
  obtain ⟨i0, hi0, hzz⟩ := Option.map_eq_some_iff.1 Tryz.info5
  simp only [Prod.mk.injEq] at hzz
  obtain ⟨hi2, hi1, hi3⟩ := hzz
  subst hN hz
  refine wpList_append_lies _ hgd s x 22 ho B 5 i0 (.int .u8 0) 1 1 Tryz.underlying22 hi0 hi2 hi1 hi3 rfl (by omega) v n (us.map (Value.int .u8)) hs HO.out ad m c (bs.map (Value.int .u8)) hx (by simp [hl]) HN.out (oneCell_map bs) hm (by unfold maxLen; omega) (by omega) hB _ rfl ?_
  intro g cap w' hown hgr hat hlt
  refine h g cap w' (Row8.grown hown rfl hlt) hgr hat ?_
  rcases HO.out.2 with ⟨hv, _⟩ | ⟨g0, c0, cur, hv, hb, _⟩
  · subst hv
    exact below_nil hgr hB
  · subst hv
    exact grown_below (g := g0) hgr hb hB

theorem Row8.own {w : World} {B g n cap : Nat} {bs : List Int} (h : Row8 w B g n cap bs) : Hid (w.ownsRow B 5 1 (.slice (some ⟨g, 0, none⟩) n cap) n (bs.map (Value.int .u8))) := h.1
theorem Row8.len {w : World} {B g n cap : Nat} {bs : List Int} (h : Row8 w B g n cap bs) : bs.length = n := by simpa using h.1.1
/-- Where a row that has grown lies: elsewhere than one that is not its own. -/
theorem away {v : Value} {g g' H : Nat} (h : v.ownBlock = some g ∨ g = H) (hv : v.ownBlock ≠ some g') (hl : g' < H) : g ≠ g' := by
  rcases h with h | h
  · intro e; subst e; exact hv h
  · omega
/-- A row's cells, at another row's growing. -/
theorem news_past {w w' : World} {v : Value} {g' : Nat} {vs : List Value} (h : w.grownBy w' v.ownBlock) (hne : v.ownBlock ≠ some g') (hl : g' < w.heap.size) (hc : ∀ j u, vs[j]? = some u → w.cell? ((⟨g', 0, none⟩ : Addr).add j) = some u) :
    ∀ j u, vs[j]? = some u → w'.cell? ((⟨g', 0, none⟩ : Addr).add j) = some u := by
  intro j u hj
  have hb : ((⟨g', 0, none⟩ : Addr).add j).block = g' := by
    by_cases h0 : j = 0 <;> simp [Addr.add, h0]
  rw [World.cell?_of_block (h.block _ (by rw [hb]; exact hl) (by rw [hb]; exact fun e => hne e.symm))]
  exact hc j u hj
theorem own_ne {g g' n c : Nat} (h : g ≠ g') : (Value.slice (some ⟨g, 0, none⟩) n c).ownBlock ≠ some g' := by simpa [Value.ownBlock] using h

set_option maxHeartbeats 2000000 in
theorem l1number_neg (n : Int) (s : Nat) (a : Option Addr) (len cap : Nat) (w : World) (hs : s ≤ 6) (hn : 0 < n) (hn' : n ≤ 9223372036854775807) :
    Calls Tryz.prog 65 #[.agg #[.int .i64 3, .slice a len cap, .int .i64 (-n), .int .i64 s]] w fun e w' => DigRes w (45 :: numL n s) e w' := by
  have hn0 : 0 ≤ n := by omega
  have P := fun w => l1pow_any s w hs
  have hp := p10_pos s
  have hp6 := p10_le hs
  have d0 : 0 ≤ n / p10 s := Int.ediv_nonneg hn0 (by omega)
  have d1 : n / p10 s ≤ n := Int.ediv_le_self _ hn0
  have m0 : 0 ≤ n % p10 s := Int.emod_nonneg _ (by omega)
  have m1 : n % p10 s < p10 s := Int.emod_lt_of_pos _ (by omega)
  have D1 := fun w => l1digits_int (n / p10 s) w d0 (by omega)
  have D2 := fun w => l1digits_int (n % p10 s) w m0 (by omega)
  have hL1 := digitsL_len 19 (n / p10 s).toNat (by omega)
  have hL2 := digitsL_len 6 (n % p10 s).toNat (by omega)
  have hq1 := digitsL_pos (n / p10 s).toNat
  have hq2 := digitsL_pos (n % p10 s).toNat
  unfold numL
  generalize digitsL (n / p10 s).toNat = d at *
  generalize digitsL (n % p10 s).toNat = f at *
  have HX : Hid (∀ wr, Below (w.heap.size + 1) (w.alloc (.cells #[.int .i64 3, .slice a len cap, .int .i64 (-n), .int .i64 s] 43)) wr → wr.cell? ⟨w.heap.size, 3, none⟩ = some (.int .i64 s)) := fun wr h => (h.cell (p := ⟨w.heap.size, 3, none⟩) (Nat.lt_succ_self _)).trans (by simp [go_sem])
  have HW : Hid (∀ wr, Below (w.heap.size + 1) (w.alloc (.cells #[.int .i64 3, .slice a len cap, .int .i64 (-n), .int .i64 s] 43)) wr → Below w.heap.size w wr) := fun wr h => (bl_a (w := w) (.cells #[.int .i64 3, .slice a len cap, .int .i64 (-n), .int .i64 s] 43)).trans (h.mono (Nat.le_succ _))
  have HSZ : Hid (∀ wr, Below (w.heap.size + 1) (w.alloc (.cells #[.int .i64 3, .slice a len cap, .int .i64 (-n), .int .i64 s] 43)) wr → (w.heap.size + 1) ≤ wr.heap.size) := fun wr h => Nat.le_trans (by simp) h.size
  have HB0 : Hid (Below (w.heap.size + 1) (w.alloc (.cells #[.int .i64 3, .slice a len cap, .int .i64 (-n), .int .i64 s] 43)) ((w.alloc (.cells #[.int .i64 3, .slice a len cap, .int .i64 (-n), .int .i64 s] 43)).alloc (.cells #[.int .u8 45] 5))) := (Below.refl _ _).alloc (by simp) _
  have hB0 := HSZ.out _ HB0.out
  have HO0 : Hid (((w.alloc (.cells #[.int .i64 3, .slice a len cap, .int .i64 (-n), .int .i64 s] 43)).alloc (.cells #[.int .u8 45] 5)).ownsRow (w.heap.size + 1) 5 1 (.slice none 0 0) 0 (([] : List Int).map (Value.int .u8))) := World.ownsRow_nil _ _ _ _
  have HN0 : Hid (∀ j u, (([45] : List Int).map (Value.int .u8))[j]? = some u → ((w.alloc (.cells #[.int .i64 3, .slice a len cap, .int .i64 (-n), .int .i64 s] 43)).alloc (.cells #[.int .u8 45] 5)).cell? ((⟨(w.heap.size + 1), 0, none⟩ : Addr).add j) = some u) := by
    have h := one_news (w.alloc (.cells #[.int .i64 3, .slice a len cap, .int .i64 (-n), .int .i64 s] 43)) 45
    rw [show ((w.alloc (.cells #[.int .i64 3, .slice a len cap, .int .i64 (-n), .int .i64 s] 43))).heap.size = (w.heap.size + 1) by simp] at h
    exact h
  go_enter Tryz.func65, Tryz.ntmps65
  go_wp2_with (refine app8 rfl (.tmp 11) (.tmp 12) rfl (w.heap.size + 1) (.slice none 0 0) 0 [] rfl HO0 ⟨(w.heap.size + 1), 0, none⟩ 1 1 [45] rfl rfl HN0 (by omega) 1 rfl [45] rfl (by omega) hB0 ?_; intro gA cA wA HRA _ _ HBA'; have HBA : Hid (Below (w.heap.size + 1) (w.alloc (.cells #[.int .i64 3, .slice a len cap, .int .i64 (-n), .int .i64 s] 43)) wA) := HB0.out.trans HBA'.out; have hxA := HX.out wA HBA.out; clear HBA' HO0 HN0 HB0 hB0)
  refine (P _).mono ?_
  rintro e w1 ⟨rfl, rfl⟩
  go_wp2_with fail
  refine (D1 _).mono ?_
  rintro e w2 ⟨g2, cap2, rfl, hr2, hb2⟩
  have HN2 : Hid (∀ j u, (d.map (Value.int .u8))[j]? = some u → w2.cell? ((⟨g2, 0, none⟩ : Addr).add j) = some u) := hr2.news
  have HO2 : Hid (w2.ownsRow (w.heap.size + 1) 5 1 (.slice (some ⟨gA, 0, none⟩) 1 cA) 1 (([45] : List Int).map (Value.int .u8))) := (HRA.out.below hb2).1
  have HB2 : Hid (Below (w.heap.size + 1) (w.alloc (.cells #[.int .i64 3, .slice a len cap, .int .i64 (-n), .int .i64 s] 43)) w2) := HBA.out.trans (hb2.mono (HSZ.out _ HBA.out))
  have hB2 := HSZ.out _ HB2.out
  clear hr2 hb2 D1 HRA HBA hxA
  by_cases hs0 : s = 0
  · go_wp2_with (refine app8 rfl (.tmp 16) (.tmp 22) rfl (w.heap.size + 1) (.slice (some ⟨gA, 0, none⟩) 1 cA) 1 [45] rfl HO2 ⟨g2, 0, none⟩ d.length _ d rfl rfl HN2 (by omega) (1 + d.length) rfl (45 :: d) rfl (by omega) hB2 ?_; intro g3 cap3 w3 HR3 _ _ HB3'; have HB3 : Hid (Below (w.heap.size + 1) (w.alloc (.cells #[.int .i64 3, .slice a len cap, .int .i64 (-n), .int .i64 s] 43)) w3) := HB2.out.trans HB3'.out; have hx3 := HX.out w3 HB3.out; clear HB3' HO2 HN2 HB2 hB2)
    go_ret
    have el : (45 :: d : List Int).length = 1 + d.length := by simp; omega
    exact ⟨g3, cap3, by rw [el]; rfl, by rw [el]; exact HR3.out.mono (B' := w.heap.size) (Nat.le_succ _), HW.out _ HB3.out⟩
  · go_wp2_with (first
      | (refine app8 rfl (.tmp 16) (.tmp 22) rfl (w.heap.size + 1) (.slice (some ⟨gA, 0, none⟩) 1 cA) 1 [45] rfl HO2 ⟨g2, 0, none⟩ d.length _ d rfl rfl HN2 (by omega) (1 + d.length) rfl (45 :: d) rfl (by omega) hB2 ?_; intro g3 cap3 w3 HR3 _ _ HB3'; have HB3 : Hid (Below (w.heap.size + 1) (w.alloc (.cells #[.int .i64 3, .slice a len cap, .int .i64 (-n), .int .i64 s] 43)) w3) := HB2.out.trans HB3'.out; have hx3 := HX.out w3 HB3.out; have HO3 := (HR3.out.below (bl_a (.cells #[.int .u8 46] 5))).own; have HB3a : Hid (Below (w.heap.size + 1) (w.alloc (.cells #[.int .i64 3, .slice a len cap, .int .i64 (-n), .int .i64 s] 43)) (w3.alloc (.cells #[.int .u8 46] 5))) := HB3.out.alloc (HSZ.out _ HB3.out) _; have hB3a := HSZ.out _ HB3a.out; have HN3 : Hid (∀ j u, (([46] : List Int).map (Value.int .u8))[j]? = some u → (w3.alloc (.cells #[.int .u8 46] 5)).cell? ((⟨w3.heap.size, 0, none⟩ : Addr).add j) = some u) := one_news w3 46; clear HB3' HO2 HN2 HB2 hB2)
      | (refine app8 rfl (.tmp 28) (.tmp 29) rfl (w.heap.size + 1) (.slice (some ⟨g3, 0, none⟩) (1 + d.length) cap3) (1 + d.length) (45 :: d) rfl HO3 ⟨w3.heap.size, 0, none⟩ 1 1 [46] rfl rfl HN3 (by omega) (1 + d.length + 1) rfl (45 :: d ++ [46]) rfl (by omega) hB3a ?_; intro g4 cap4 w4 HR4 _ _ HB4'; have HB4 : Hid (Below (w.heap.size + 1) (w.alloc (.cells #[.int .i64 3, .slice a len cap, .int .i64 (-n), .int .i64 s] 43)) w4) := HB3a.out.trans HB4'.out; have hx4 := HX.out w4 HB4.out; clear HB4' HO3 HB3a hB3a HN3 HB3 HR3 hx3))
    refine (P _).mono ?_
    rintro e w4' ⟨rfl, rfl⟩
    go_wp2_with fail
    refine (D2 _).mono ?_
    rintro e w5 ⟨g5, cap5, rfl, hr5, hb5⟩
    have HR5 : Hid (Row8 w5 (w.heap.size + 1) g4 (1 + d.length + 1) cap4 (45 :: d ++ [46])) := HR4.out.below hb5
    have HB5 : Hid (Below (w.heap.size + 1) (w.alloc (.cells #[.int .i64 3, .slice a len cap, .int .i64 (-n), .int .i64 s] 43)) w5) := HB4.out.trans (hb5.mono (HSZ.out _ HB4.out))
    have HF5 : Hid (∀ j u, (f.map (Value.int .u8))[j]? = some u → w5.cell? ((⟨g5, 0, none⟩ : Addr).add j) = some u) := hr5.news
    have hg5 : g5 < w5.heap.size := hr5.2
    have hne5 : g4 ≠ g5 := by have := HR4.out.2; have := hr5.ge; omega
    have hx5 := HX.out w5 HB5.out
    clear hr5 hb5 HR4 HB4 D2 P hx4
    go_wp2_with fail
    go_loopw [3, 6] (fun x i wr => ∃ (k gx nx cx : Nat), f.length ≤ k ∧ (k ≤ s ∨ k = f.length) ∧ i = .int .i64 k ∧ x = .slice (some ⟨gx, 0, none⟩) nx cx ∧ nx = 1 + d.length + 1 + (k - f.length) ∧ gx ≠ g5 ∧ g5 < wr.heap.size ∧ Hid (Row8 wr (w.heap.size + 1) gx nx cx (45 :: (d ++ 46 :: List.replicate (k - f.length) 48))) ∧ Hid (Below (w.heap.size + 1) (w.alloc (.cells #[.int .i64 3, .slice a len cap, .int .i64 (-n), .int .i64 s] 43)) wr) ∧ Hid (∀ j u, (f.map (Value.int .u8))[j]? = some u → wr.cell? ((⟨g5, 0, none⟩ : Addr).add j) = some u))
      (fun _ i _ => s - (intOf i).toNat)
    case atStart => exact ⟨f.length, g4, 1 + d.length + 1, cap4, Nat.le_refl _, .inr rfl, rfl, rfl, by omega, hne5, hg5, by simpa using HR5, HB5, HF5⟩
    case round =>
      obtain ⟨k, gx, nx, cx, hk, hks, rfl, rfl, hnx, hne, hg, HR, HB, HF⟩ := hrel
      have hbox := HX.out wr HB.out
      have HNX : Hid (nx = 1 + d.length + 1 + (k - f.length)) := hnx
      have hnb : nx ≤ 40 := by omega
      have hov := own_ne (n := nx) (c := cx) hne
      clear hnx HR5 HB5 HF5 hg5 hne5 hx5
      by_cases hlt : k < s
      · have HO1 := (HR.out.below (bl_a (.cells #[.int .u8 48] 5))).own
        have HB1 : Hid (Below (w.heap.size + 1) (w.alloc (.cells #[.int .i64 3, .slice a len cap, .int .i64 (-n), .int .i64 s] 43)) (wr.alloc (.cells #[.int .u8 48] 5))) := HB.out.alloc (HSZ.out _ HB.out) _
        have hB1 := HSZ.out _ HB1.out
        have HN1 : Hid (∀ j u, (([48] : List Int).map (Value.int .u8))[j]? = some u → (wr.alloc (.cells #[.int .u8 48] 5)).cell? ((⟨wr.heap.size, 0, none⟩ : Addr).add j) = some u) := one_news wr 48
        have HF1 : Hid (∀ j u, (f.map (Value.int .u8))[j]? = some u → (wr.alloc (.cells #[.int .u8 48] 5)).cell? ((⟨g5, 0, none⟩ : Addr).add j) = some u) := news_alloc _ hg HF.out
        have hg1 : g5 < (wr.alloc (.cells #[.int .u8 48] 5)).heap.size := by simp; omega
        go_wp2_with (refine app8 rfl (.tmp 45) (.tmp 46) rfl (w.heap.size + 1) (.slice (some ⟨gx, 0, none⟩) nx cx) nx (45 :: (d ++ 46 :: List.replicate (k - f.length) 48)) rfl HO1 ⟨wr.heap.size, 0, none⟩ 1 1 [48] rfl rfl HN1 (by omega) (nx + 1) rfl ((45 :: (d ++ 46 :: List.replicate (k - f.length) 48)) ++ [48]) rfl (by omega) hB1 ?_; intro g6 cap6 w6 HR6 hgr6 hat6 HB6'; have HB6 : Hid (Below (w.heap.size + 1) (w.alloc (.cells #[.int .i64 3, .slice a len cap, .int .i64 (-n), .int .i64 s] 43)) w6) := HB1.out.trans HB6'.out; have HF6 : Hid (∀ j u, (f.map (Value.int .u8))[j]? = some u → w6.cell? ((⟨g5, 0, none⟩ : Addr).add j) = some u) := news_past hgr6.out hov hg1 HF1.out; have hg6 : g5 < w6.heap.size := Nat.lt_of_lt_of_le hg1 hgr6.out.size; have hne6 : g6 ≠ g5 := away hat6.out hov hg1; clear hgr6 hat6 HB6')
        go_roundw
        case rel =>
          refine ⟨k + 1, g6, nx + 1, cap6, by omega, by omega, by go_num, rfl, by have := HNX.out; omega, hne6, hg6, ?_, HB6, HF6⟩
          have h := HR6.out
          show Row8 _ _ _ _ _ _
          have e : k + 1 - f.length = (k - f.length) + 1 := by omega
          rw [e, List.replicate_succ']
          simpa using h
        case measure => simp [intOf]; omega
      · have HO1 := HR.out.own
        have hB1 := HSZ.out _ HB.out
        go_wp2_with (refine app8 rfl (.tmp 48) (.tmp 49) rfl (w.heap.size + 1) (.slice (some ⟨gx, 0, none⟩) nx cx) nx (45 :: (d ++ 46 :: List.replicate (k - f.length) 48)) rfl HO1 ⟨g5, 0, none⟩ f.length _ f rfl rfl HF (by omega) (nx + f.length) rfl ((45 :: (d ++ 46 :: List.replicate (k - f.length) 48)) ++ f) rfl (by omega) hB1 ?_; intro g7 cap7 w7 HR7 _ _ HB7'; have HB7 : Hid (Below (w.heap.size + 1) (w.alloc (.cells #[.int .i64 3, .slice a len cap, .int .i64 (-n), .int .i64 s] 43)) w7) := HB.out.trans HB7'.out; clear HB7')
        go_ret
        have e : k - f.length = s - f.length := by omega
        have h := HR7.out.mono (B' := w.heap.size) (Nat.le_succ _)
        rw [e] at h
        have el : (45 :: (d ++ 46 :: (List.replicate (s - f.length) 48 ++ f)) : List Int).length = nx + f.length := by have := HNX.out; simp; omega
        exact ⟨g7, cap7, by rw [el]; rfl, by rw [el]; simpa using h, HW.out _ HB7.out⟩
end Go.Proofs.YtiodiooaaojbhaaGreatDoor

/- ShwH -/
namespace Go.Proofs.YtiodiooaaojbhaaGreatDoor
open Go.RowKit Go.Deep
set_option maxRecDepth 100000

/-- What a term that may be shows as. -/
def showL (k n s : Int) (bs : List Int) : List Int :=
  if k = 0 then 60 :: (bs ++ [62]) else if k = 1 then 95 :: 58 :: digitsL n.toNat else if k = 2 then 34 :: (esc bs ++ [34]) else if n < 0 then 45 :: numL (-n) s.toNat else numL n s.toNat
/-- What Show writes. -/
def shownL (k n s : Int) (bs : List Int) : List Int := if termOk k bs n s = true then showL k n s bs else []

theorem digitsL_byt (n : Nat) : Byt (digitsL n) := by
  induction n using Nat.strongRecOn with
  | ind n ih =>
    by_cases h : n < 10
    · rw [digitsL_small h]
      exact Byt.cons (by omega) Byt.nil
    · rw [digitsL_step h]
      exact (ih (n / 10) (by omega)).app (Byt.cons (by omega) Byt.nil)
theorem esc_byt {bs : List Int} (h : Byt bs) : Byt (esc bs) := by
  intro x hx
  unfold esc at hx
  obtain ⟨b, hb, hx⟩ := List.mem_flatMap.1 hx
  have := h b hb
  split at hx
  · simp at hx
    rcases hx with rfl | rfl
    · omega
    · exact this
  · simp at hx
    subst hx
    exact this
theorem rep_byt (n : Nat) : Byt (List.replicate n 48) := by
  intro x hx
  have := (List.mem_replicate.1 hx).2
  omega
theorem numL_byt (n : Int) (s : Nat) : Byt (numL n s) := by
  unfold numL
  refine (digitsL_byt _).app ?_
  split
  · exact Byt.nil
  · exact Byt.cons (by omega) ((rep_byt _).app (digitsL_byt _))
theorem showL_byt {k n s : Int} {bs : List Int} (h : Byt bs) : Byt (showL k n s bs) := by
  unfold showL
  split
  · exact Byt.cons (by omega) (h.app (Byt.cons (by omega) Byt.nil))
  split
  · exact Byt.cons (by omega) (Byt.cons (by omega) (digitsL_byt _))
  split
  · exact Byt.cons (by omega) ((esc_byt h).app (Byt.cons (by omega) Byt.nil))
  split
  · exact Byt.cons (by omega) (numL_byt _ _)
  · exact numL_byt _ _
theorem numOk_bounds {n s : Int} (h : numOk n s = true) : 0 ≤ s ∧ s ≤ 6 ∧ -1000000000000000 ≤ n ∧ n ≤ 1000000000000000 := by
  simp [numOk] at h
  exact ⟨h.1.1.1.1, h.1.1.1.2, h.1.1.2, h.1.2⟩
theorem numL_len (n : Int) (s : Nat) (h0 : 0 ≤ n) (h1 : n ≤ 1000000000000000) (hs : s ≤ 6) : 1 ≤ (numL n s).length ∧ (numL n s).length ≤ 40 := by
  have hp := p10_pos s
  have hp6 := p10_le hs
  have d0 : 0 ≤ n / p10 s := Int.ediv_nonneg h0 (by omega)
  have d1 : n / p10 s ≤ n := Int.ediv_le_self _ h0
  have m0 : 0 ≤ n % p10 s := Int.emod_nonneg _ (by omega)
  have m1 : n % p10 s < p10 s := Int.emod_lt_of_pos _ (by omega)
  have hL1 := digitsL_len 16 (n / p10 s).toNat (by omega)
  have hL2 := digitsL_len 6 (n % p10 s).toNat (by omega)
  have hq1 := digitsL_pos (n / p10 s).toNat
  unfold numL
  split
  · simp; omega
  · simp; omega
theorem showL_len {k n s : Int} {bs : List Int} (h : termOk k bs n s = true) : 1 ≤ (showL k n s bs).length ∧ (showL k n s bs).length ≤ 64 := by
  unfold showL
  unfold termOk at h
  split at h
  · rename_i hk
    rw [if_pos hk]
    simp [nameOk] at h
    simp
    omega
  split at h
  · rename_i h0 hk
    rw [if_neg h0, if_pos hk]
    have := digitsL_len 18 n.toNat (by simp at h; omega)
    simp
    omega
  split at h
  · rename_i h0 h1 hk
    rw [if_neg h0, if_neg h1, if_pos hk]
    simp [textOk] at h
    have := esc_len bs
    simp
    omega
  split at h
  · rename_i h0 h1 h2 hk
    rw [if_neg h0, if_neg h1, if_neg h2]
    simp only [Bool.and_eq_true] at h
    have hb := numOk_bounds h.2
    split
    · have := numL_len (-n) s.toNat (by omega) (by omega) (by omega)
      simp
      omega
    · have := numL_len n s.toNat (by omega) (by omega) (by omega)
      omega
  · cases h
/-- A text that is new: none, or in a block of its own from B on. -/
def Nw (w : World) (B : Nat) (a : Option Addr) (len : Nat) (bs : List Int) : Prop := (a = none ∧ len = 0 ∧ bs = []) ∨ ∃ g, a = some ⟨g, 0, none⟩ ∧ B ≤ g ∧ OwnT w g len bs
theorem Nw.bs {w : World} {B : Nat} {a : Option Addr} {len : Nat} {bs : List Int} (h : Nw w B a len bs) : Bs w a len bs := by
  rcases h with ⟨rfl, rfl, rfl⟩ | ⟨g, rfl, _, ho⟩
  · exact ⟨rfl, by omega, by simp, .inl rfl⟩
  · exact ho.1
theorem Nw.below {w w' : World} {B : Nat} {a : Option Addr} {len : Nat} {bs : List Int} (h : Nw w B a len bs) (hb : Below w.heap.size w w') : Nw w' B a len bs := by
  rcases h with h | ⟨g, ha, hB, ho⟩
  · exact .inl h
  · exact .inr ⟨g, ha, hB, ho.below hb⟩
theorem Nw.mono {w : World} {B B' : Nat} {a : Option Addr} {len : Nat} {bs : List Int} (h : Nw w B a len bs) (hB' : B' ≤ B) : Nw w B' a len bs := by
  rcases h with h | ⟨g, ha, hB, ho⟩
  · exact .inl h
  · exact .inr ⟨g, ha, by omega, ho⟩
theorem Nw.nil (w : World) (B : Nat) : Nw w B none 0 [] := .inl ⟨rfl, rfl, rfl⟩
theorem Row8.nw {w : World} {B g n cap : Nat} {bs : List Int} (h : Row8 w B g n cap bs) (hb : Byt bs) (hl : n ≤ 1048576) : Nw w B (some ⟨g, 0, none⟩) n bs := by
  have hn := h.news
  have hge := h.ge
  have hlen := h.len
  refine .inr ⟨g, rfl, hge, ⟨hlen, hl, hb.get, .inr ⟨g, 0, rfl, h.2, fun i hi => ?_⟩⟩, h.2, fun i hi => ?_, fun i hi => ?_⟩
  · have ea : (⟨g, 0, none⟩ : Addr).add i = ⟨g, 0 + i, none⟩ := by
      by_cases h0 : i = 0 <;> simp [Addr.add, h0]
    rw [← ea]
    refine hn i _ ?_
    rw [List.getElem?_map, List.getElem?_eq_getElem (by omega)]
    rfl
  · have ea : (⟨g, 0, none⟩ : Addr).add i = ⟨g, i, none⟩ := by
      by_cases h0 : i = 0 <;> simp [Addr.add, h0]
    refine ⟨bs[i]?.getD 0, ?_⟩
    rw [← ea]
    refine hn i _ ?_
    rw [List.getElem?_map, List.getElem?_eq_getElem (by omega)]
    rfl
  · rcases h.1.2 with ⟨hv, _⟩ | ⟨g', cap', cur, hv, hB, hh, _⟩
    · cases hv
    · cases hv
      simp [World.frozen?, hh]
theorem Tx.nw {w : World} {B : Nat} {a : Option Addr} {len cap : Nat} {bs : List Int} (h : Tx w B a len cap bs) : Nw w B a len bs := by
  rcases h.2 with ⟨rfl, rfl, _⟩ | ⟨g, rfl, hB, hg, hl, hc⟩
  · exact .inl ⟨rfl, rfl, List.eq_nil_of_length_eq_zero h.1.1⟩
  · exact .inr ⟨g, rfl, hB, h.1, hg, fun i hi => (hc i (by omega)).1, fun i hi => (hc i (by omega)).2⟩

/-- What Show answers. -/
def TxRes (w : World) (bs : List Int) (e : Ending) (w' : World) : Prop := ∃ a cap, e = .returned (.slice a bs.length cap) ∧ Nw w' w.heap.size a bs.length bs ∧ Below w.heap.size w w'
theorem DigRes.tx {w : World} {bs : List Int} {e : Ending} {w' : World} (h : DigRes w bs e w') (hb : Byt bs) (hl : bs.length ≤ 1048576) : TxRes w bs e w' := by
  obtain ⟨g, cap, he, hr, hbl⟩ := h
  exact ⟨_, cap, he, hr.nw hb hl, hbl⟩
theorem TxRes.later {w w1 : World} {bs : List Int} {e : Ending} {w' : World} (h : TxRes w1 bs e w') (hb : Below w.heap.size w w1) : TxRes w bs e w' := by
  obtain ⟨a, cap, he, hr, hbl⟩ := h
  exact ⟨a, cap, he, hr.mono hb.size, bl_trans hb hbl⟩
theorem DigRes.later {w w1 : World} {bs : List Int} {e : Ending} {w' : World} (h : DigRes w1 bs e w') (hb : Below w.heap.size w w1) : DigRes w bs e w' := by
  obtain ⟨g, cap, he, hr, hbl⟩ := h
  exact ⟨g, cap, he, hr.mono hb.size, bl_trans hb hbl⟩

theorem l1show_num (n s : Int) (a : Option Addr) (len cap : Nat) (w : World) (h : numOk n s = true) :
    Calls Tryz.prog 34 #[.agg #[.int .i64 3, .slice a len cap, .int .i64 n, .int .i64 s]] w fun e w' => DigRes w (showL 3 n s []) e w' := by
  have hb := numOk_bounds h
  have C : ∀ w, Calls Tryz.prog 65 #[.agg #[.int .i64 3, .slice a len cap, .int .i64 n, .int .i64 s]] w fun e w' => DigRes w (showL 3 n s []) e w' := by
    intro w
    obtain ⟨t, rfl⟩ : ∃ t : Nat, s = t := ⟨s.toNat, by omega⟩
    by_cases hn : n < 0
    · obtain ⟨m, rfl⟩ : ∃ m, n = -m := ⟨-n, by omega⟩
      have := l1number_neg m t a len cap w (by omega) (by omega) (by omega)
      have e : showL 3 (-m) t [] = 45 :: numL m t := by simp [showL]; omega
      rw [e]
      exact this
    · have := l1number_pos n t a len cap w (by omega) (by omega) (by omega)
      have e : showL 3 n t [] = numL n t := by simp [showL, hn]
      rw [e]
      exact this
  generalize showL 3 n s [] = L at *
  go_enter Tryz.func34, Tryz.ntmps34
  go_wp2_with fail
  refine (C _).mono ?_
  intro e w1 hR
  have hR' := hR.later (bl_a _)
  clear hR
  obtain ⟨g, cp, rfl, hr, hbl⟩ := hR'
  go_wp2_with fail
  go_ret
  exact ⟨g, cp, rfl, hr, hbl⟩

theorem l1show_any (k n s : Int) (a : Option Addr) (len cap : Nat) (bs : List Int) (w : World) (hB : Bs w a len bs) (hok : termOk k bs n s = true) :
    Calls Tryz.prog 34 #[.agg #[.int .i64 k, .slice a len cap, .int .i64 n, .int .i64 s]] w fun e w' => DigRes w (showL k n s bs) e w' := by
  have h := hok
  unfold termOk at h
  split at h
  · rename_i hk
    subst hk
    simp [nameOk] at h
    have hl := hB.1
    rcases hB.2.2.2 with h0 | ⟨b, off, rfl, hr⟩
    · omega
    · have := l1show_name n s b off len cap bs w hB (by omega)
      simpa [showL] using this
  split at h
  · rename_i h0 hk
    subst hk
    simp at h
    obtain ⟨m, rfl⟩ : ∃ m : Nat, n = m := ⟨n.toNat, by omega⟩
    have := l1show_blank m s a len cap w (by omega)
    simpa [showL] using this
  split at h
  · rename_i h0 h1 hk
    subst hk
    have := l1show_text n s a len cap bs w hB
    simpa [showL] using this
  split at h
  · rename_i h0 h1 h2 hk
    subst hk
    simp only [Bool.and_eq_true] at h
    have := l1show_num n s a len cap w h.2
    have e : showL 3 n s bs = showL 3 n s [] := by simp [showL]
    rw [e]
    exact this
  · cases h

end Go.Proofs.YtiodiooaaojbhaaGreatDoor

/- GraA -/
namespace Go.Proofs.YtiodiooaaojbhaaGreatDoor
open Go.RowKit Go.Deep

/-- Three terms in a row from place o on in block b. -/
def Row12 (w : World) (b o : Nat) (t u v : Tm) : Prop :=
  (w.cell? ⟨b, o, none⟩ = some (.int .i64 t.k) ∧ w.cell? ⟨b, o + 1, none⟩ = some (.slice t.a t.len t.cap) ∧ w.cell? ⟨b, o + 2, none⟩ = some (.int .i64 t.n) ∧ w.cell? ⟨b, o + 3, none⟩ = some (.int .i64 t.s)) ∧
    (w.cell? ⟨b, o + 4, none⟩ = some (.int .i64 u.k) ∧ w.cell? ⟨b, o + 5, none⟩ = some (.slice u.a u.len u.cap) ∧ w.cell? ⟨b, o + 6, none⟩ = some (.int .i64 u.n) ∧ w.cell? ⟨b, o + 7, none⟩ = some (.int .i64 u.s)) ∧
    (w.cell? ⟨b, o + 8, none⟩ = some (.int .i64 v.k) ∧ w.cell? ⟨b, o + 9, none⟩ = some (.slice v.a v.len v.cap) ∧ w.cell? ⟨b, o + 10, none⟩ = some (.int .i64 v.n) ∧ w.cell? ⟨b, o + 11, none⟩ = some (.int .i64 v.s))
/-- n triples behind an address. -/
def Rows (w : World) (a : Option Addr) (n : Nat) (T U V : Nat → Tm) : Prop :=
  n = 0 ∨ ∃ b off, a = some ⟨b, off, none⟩ ∧ b < w.heap.size ∧ ∀ i, i < n → Row12 w b (off + i * 12) (T i) (U i) (V i)
theorem Row12.of_block {w w' : World} {b o : Nat} {t u v : Tm} (h : Row12 w b o t u v) (hb : w'.heap[b]? = w.heap[b]?) : Row12 w' b o t u v := by
  have e : ∀ i, w'.cell? ⟨b, i, none⟩ = w.cell? ⟨b, i, none⟩ := fun i => World.cell?_of_block (w := w) (a := ⟨b, i, none⟩) hb
  unfold Row12
  simp only [e]
  exact h
theorem Rows.below {w w' : World} {a : Option Addr} {n : Nat} {T U V : Nat → Tm} (h : Rows w a n T U V) (hb : Below w.heap.size w w') : Rows w' a n T U V := by
  rcases h with h | ⟨b, off, ha, hlt, hc⟩
  · exact .inl h
  · exact .inr ⟨b, off, ha, Nat.lt_of_lt_of_le hlt hb.size, fun i hi => (hc i hi).of_block (hb.block b hlt)⟩
/-- Their texts. -/
def Texts (w : World) (n : Nat) (T : Nat → Tm) (B : Nat → List Int) : Prop := ∀ i, i < n → Bs w (T i).a (T i).len (B i)
theorem Texts.below {w w' : World} {n : Nat} {T : Nat → Tm} {B : Nat → List Int} (h : Texts w n T B) (hb : Below w.heap.size w w') : Texts w' n T B := fun i hi => (h i hi).below hb

theorem bl_drew0 {w : World} : Below w.heap.size w w.drew := Below.drew (Below.refl _ _)

end Go.Proofs.YtiodiooaaojbhaaGreatDoor

/- GraC -/
namespace Go.Proofs.YtiodiooaaojbhaaGreatDoor
open Go.RowKit Go.Deep

/-- All of the first N places of block g are there. -/
def Ex (w : World) (g N : Nat) : Prop := ∀ j, j < N → ∃ v, w.cell? ⟨g, j, none⟩ = some v
theorem Ex.set {w : World} {g N i : Nat} {v : Value} (h : Ex w g N) : Ex (w.setCell ⟨g, i, none⟩ v) g N := by
  intro j hj
  obtain ⟨u, hu⟩ := h j hj
  by_cases e : j = i
  · subst e; exact ⟨v, set_same hu⟩
  · exact ⟨u, by rw [set_other e]; exact hu⟩
theorem Ex.put {w : World} {g N i0 i1 i2 i3 : Nat} {x : Tm} (h : Ex w g N) : Ex (put4 w g i0 i1 i2 i3 x) g N := (((h.set).set).set).set
theorem Ex.below {w w' : World} {g N : Nat} (h : Ex w g N) (hg : g < w.heap.size) (hb : Below w.heap.size w w') : Ex w' g N := fun j hj => by
  obtain ⟨u, hu⟩ := h j hj
  exact ⟨u, (hb.cell (p := ⟨g, j, none⟩) hg).trans hu⟩
/-- .. and may be written. -/
def Wr (w : World) (g N : Nat) : Prop := ∀ j, j < N → w.frozen? ⟨g, j, none⟩ = false
theorem Wr.put {w : World} {g N i0 i1 i2 i3 : Nat} {x : Tm} (h : Wr w g N) : Wr (put4 w g i0 i1 i2 i3 x) g N := fun j hj => by simp [put4, h j hj]
theorem Wr.below {w w' : World} {g N : Nat} (h : Wr w g N) (hg : g < w.heap.size) (hb : Below w.heap.size w w') : Wr w' g N := fun j hj => (hb.frozen (p := ⟨g, j, none⟩) hg).trans (h j hj)

/-- A triple written at place o. -/
def put12 (w : World) (g o : Nat) (t u v : Tm) : World := put4 (put4 (put4 w g o (o + 1) (o + 2) (o + 3) t) g (o + 4) (o + 5) (o + 6) (o + 7) u) g (o + 8) (o + 9) (o + 10) (o + 11) v
theorem put4_at {w : World} {g o : Nat} {t : Tm} {N : Nat} (h : Ex w g N) (ho : o + 3 < N) :
    (put4 w g o (o + 1) (o + 2) (o + 3) t).cell? ⟨g, o, none⟩ = some (.int .i64 t.k) ∧ (put4 w g o (o + 1) (o + 2) (o + 3) t).cell? ⟨g, o + 1, none⟩ = some (.slice t.a t.len t.cap) ∧ (put4 w g o (o + 1) (o + 2) (o + 3) t).cell? ⟨g, o + 2, none⟩ = some (.int .i64 t.n) ∧ (put4 w g o (o + 1) (o + 2) (o + 3) t).cell? ⟨g, o + 3, none⟩ = some (.int .i64 t.s) := by
  unfold put4
  refine ⟨?_, ?_, ?_, ?_⟩
  · obtain ⟨u, hu⟩ := h o (by omega)
    rw [set_other (by omega), set_other (by omega), set_other (by omega)]
    exact set_same hu
  · obtain ⟨u, hu⟩ := h.set (i := o) (v := .int .i64 t.k) (o + 1) (by omega)
    rw [set_other (by omega), set_other (by omega)]
    exact set_same hu
  · obtain ⟨u, hu⟩ := (h.set (i := o) (v := .int .i64 t.k)).set (i := o + 1) (v := .slice t.a t.len t.cap) (o + 2) (by omega)
    rw [set_other (by omega)]
    exact set_same hu
  · obtain ⟨u, hu⟩ := ((h.set (i := o) (v := .int .i64 t.k)).set (i := o + 1) (v := .slice t.a t.len t.cap)).set (i := o + 2) (v := .int .i64 t.n) (o + 3) (by omega)
    exact set_same hu
theorem put4_off {w : World} {g o i0 i1 i2 i3 : Nat} {t : Tm} (h : o ≠ i0 ∧ o ≠ i1 ∧ o ≠ i2 ∧ o ≠ i3) : (put4 w g i0 i1 i2 i3 t).cell? ⟨g, o, none⟩ = w.cell? ⟨g, o, none⟩ := by
  unfold put4
  rw [set_other h.2.2.2, set_other h.2.2.1, set_other h.2.1, set_other h.1]
theorem Row12.put {w : World} {g o N : Nat} {t u v : Tm} (h : Ex w g N) (ho : o + 12 ≤ N) : Row12 (put12 w g o t u v) g o t u v := by
  unfold Row12 put12
  have h1 := h.put (i0 := o) (i1 := o + 1) (i2 := o + 2) (i3 := o + 3) (x := t)
  have h2 := h1.put (i0 := o + 4) (i1 := o + 5) (i2 := o + 6) (i3 := o + 7) (x := u)
  have a1 := put4_at (t := t) h (show o + 3 < N by omega)
  have a2 := put4_at (t := u) (o := o + 4) h1 (show o + 4 + 3 < N by omega)
  have a3 := put4_at (t := v) (o := o + 8) h2 (show o + 8 + 3 < N by omega)
  refine ⟨⟨?_, ?_, ?_, ?_⟩, ⟨?_, ?_, ?_, ?_⟩, ⟨?_, ?_, ?_, ?_⟩⟩
  · rw [put4_off (by omega), put4_off (by omega)]; exact a1.1
  · rw [put4_off (by omega), put4_off (by omega)]; exact a1.2.1
  · rw [put4_off (by omega), put4_off (by omega)]; exact a1.2.2.1
  · rw [put4_off (by omega), put4_off (by omega)]; exact a1.2.2.2
  · rw [put4_off (by omega)]; exact a2.1
  · rw [put4_off (by omega)]; exact a2.2.1
  · rw [put4_off (by omega)]; exact a2.2.2.1
  · rw [put4_off (by omega)]; exact a2.2.2.2
  · exact a3.1
  · exact a3.2.1
  · exact a3.2.2.1
  · exact a3.2.2.2
theorem Tryz.info45 : (Tryz.prog.info? 45).map (fun i => (i.zero, i.size, i.bytes)) = some (some (.agg #[.int .i64 0, .slice none 0 0, .int .i64 0, .int .i64 0, .int .i64 0, .slice none 0 0, .int .i64 0, .int .i64 0, .int .i64 0, .slice none 0 0, .int .i64 0, .int .i64 0]), 12, 144) := by kernel_rfl

/-- A row of triples of the call's own, its texts too. -/
structure Copied (w : World) (g n : Nat) (T U V : Nat → Tm) (bt bu bv : Nat → List Int) (G1 G2 G3 : Nat → Nat) : Prop where
  row : ∀ i, i < n → Row12 w g (i * 12) ((T i).own (G1 i)) ((U i).own (G2 i)) ((V i).own (G3 i))
  t1 : ∀ i, i < n → OwnT w (G1 i) (T i).len (bt i)
  t2 : ∀ i, i < n → OwnT w (G2 i) (U i).len (bu i)
  t3 : ∀ i, i < n → OwnT w (G3 i) (V i).len (bv i)
  g1 : ∀ i, i < n → g < G1 i
  g2 : ∀ i, i < n → g < G2 i
  g3 : ∀ i, i < n → g < G3 i
  wr : Wr w g (n * 12)
theorem Copied.b1 {w : World} {g n : Nat} {T U V : Nat → Tm} {bt bu bv : Nat → List Int} {G1 G2 G3 : Nat → Nat} (h : Copied w g n T U V bt bu bv G1 G2 G3) : ∀ i, i < n → Bs w (some ⟨G1 i, 0, none⟩) (T i).len (bt i) := fun i hi => (h.t1 i hi).1
theorem Copied.b2 {w : World} {g n : Nat} {T U V : Nat → Tm} {bt bu bv : Nat → List Int} {G1 G2 G3 : Nat → Nat} (h : Copied w g n T U V bt bu bv G1 G2 G3) : ∀ i, i < n → Bs w (some ⟨G2 i, 0, none⟩) (U i).len (bu i) := fun i hi => (h.t2 i hi).1
theorem Copied.b3 {w : World} {g n : Nat} {T U V : Nat → Tm} {bt bu bv : Nat → List Int} {G1 G2 G3 : Nat → Nat} (h : Copied w g n T U V bt bu bv G1 G2 G3) : ∀ i, i < n → Bs w (some ⟨G3 i, 0, none⟩) (V i).len (bv i) := fun i hi => (h.t3 i hi).1
theorem Copied.below {w w' : World} {g n : Nat} {T U V : Nat → Tm} {bt bu bv : Nat → List Int} {G1 G2 G3 : Nat → Nat} (h : Copied w g n T U V bt bu bv G1 G2 G3) (hg : g < w.heap.size) (hb : Below w.heap.size w w') : Copied w' g n T U V bt bu bv G1 G2 G3 :=
  ⟨fun i hi => (h.row i hi).of_block (hb.block g hg), fun i hi => (h.t1 i hi).below hb, fun i hi => (h.t2 i hi).below hb, fun i hi => (h.t3 i hi).below hb, h.g1, h.g2, h.g3, h.wr.below hg hb⟩
end Go.Proofs.YtiodiooaaojbhaaGreatDoor

/- GraE -/
namespace Go.Proofs.YtiodiooaaojbhaaGreatDoor
open Go.RowKit Go.Deep

theorem Copied.set {w : World} {g n c i : Nat} {x : Value} {T U V : Nat → Tm} {bt bu bv : Nat → List Int} {G1 G2 G3 : Nat → Nat} (h : Copied w g n T U V bt bu bv G1 G2 G3) (hc : c < g) : Copied (w.setCell ⟨c, i, none⟩ x) g n T U V bt bu bv G1 G2 G3 := by
  have hB : But c w (w.setCell ⟨c, i, none⟩ x) := (But.refl c w).set i x
  exact ⟨fun j hj => (h.row j hj).of_block (hB.block g (by omega)), fun j hj => (h.t1 j hj).but hB (by have := h.g1 j hj; omega), fun j hj => (h.t2 j hj).but hB (by have := h.g2 j hj; omega), fun j hj => (h.t3 j hj).but hB (by have := h.g3 j hj; omega), h.g1, h.g2, h.g3, fun j hj => by rw [hB.frozen (p := ⟨g, j, none⟩) (by show g ≠ c; omega)]; exact h.wr j hj⟩
end Go.Proofs.YtiodiooaaojbhaaGreatDoor
