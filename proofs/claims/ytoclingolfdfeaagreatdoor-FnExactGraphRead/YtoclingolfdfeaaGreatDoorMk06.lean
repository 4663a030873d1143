/- Texts put together: ShwG ShwH ShwM RdA -/
import Derived.Test.YtoclingolfdfeaaGreatDoorMk05
import Derived.Test.YtoclingolfdfeaaGreatDoorMk02
import Derived.Test.YtoclingolfdfeaaGreatDoorMk04
/- ShwG -/
namespace Go.Proofs.YtoclingolfdfeaaGreatDoor
open Go.RowKit Go.Deep
set_option maxRecDepth 100000

/-- append of bytes to a row of bytes of the call's own (or to none as yet): the row, and what is left of what was there. -/
theorem app8 {ops : Array Oper} {rest : List Oper} {o : Oper} {a : Act} {Q : Exit → Act → World → Prop} {w : World} (hgd : o.guard = none) (s x : Operand)
    (ho : o.op = .call { callee := .builtin .append, args := #[s, x], argTypes := #[22, 22] })
    (B : Nat) (v : Value) (n : Nat) (us : List Int) (hs : a.eval s = v) (HO : Hid (w.ownsRow B 5 1 v n (us.map (Value.int .u8))))
    (ad : Addr) (m c : Nat) (bs : List Int) (hx : a.eval x = .slice (some ad) m c) (hl : bs.length = m) (HN : Hid (∀ j u, (bs.map (Value.int .u8))[j]? = some u → w.cell? (ad.add j) = some u))
    (hm : 0 < m) (N : Nat) (hN : n + m = N) (zs : List Int) (hz : us ++ bs = zs) (hle : N ≤ 1000000000) (hB : B ≤ w.heap.size)
    (h : ∀ g cap w', Hid (Row8 w' B g N cap zs) → Hid (w.grownBy w' v.ownBlock) → Hid (v.ownBlock = some g ∨ g = w.heap.size) → Hid (Below B w w') → wpList Tryz.prog ops Q rest (a.put o.dst (.slice (some ⟨g, 0, none⟩) N cap)) w') :
    wpList Tryz.prog ops Q (o :: rest) a w := by
  obtain ⟨i0, hi0, hzz⟩ := Option.map_eq_some_iff.1 Tryz.info5
  simp only [Prod.mk.injEq] at hzz
  obtain ⟨hi2, hi1, hi3⟩ := hzz
  subst hN hz
  refine wpList_append_lies _ hgd s x 22 ho B 5 i0 (.int .u8 0) 1 1 Tryz.underlying22 hi0 hi2 hi1 hi3 rfl (by omega) v n (us.map (Value.int .u8)) hs HO.out ad m c (bs.map (Value.int .u8)) hx (by simp [hl]) HN.out (oneCell_map bs) hm (by unfold maxLen; omega) (by omega) hB _ rfl ?_
  intro g cap w' hown hgr hat hlt
  refine h g cap w' (Row8.grown hown rfl hlt) hgr hat ?_
  rcases HO.out.2 with ⟨hv, _⟩ | ⟨g0, c0, cur, hv, hb, _⟩
  · subst hv
    exact below_nil hgr hB
  · subst hv
    exact grown_below (g := g0) hgr hb hB

theorem Row8.own {w : World} {B g n cap : Nat} {bs : List Int} (h : Row8 w B g n cap bs) : Hid (w.ownsRow B 5 1 (.slice (some ⟨g, 0, none⟩) n cap) n (bs.map (Value.int .u8))) := h.1
theorem Row8.len {w : World} {B g n cap : Nat} {bs : List Int} (h : Row8 w B g n cap bs) : bs.length = n := by simpa using h.1.1
/-- Where a row that has grown lies: elsewhere than one that is not its own. -/
theorem away {v : Value} {g g' H : Nat} (h : v.ownBlock = some g ∨ g = H) (hv : v.ownBlock ≠ some g') (hl : g' < H) : g ≠ g' := by
  rcases h with h | h
  · intro e; subst e; exact hv h
  · omega
/-- A row's cells, at another row's growing. -/
theorem news_past {w w' : World} {v : Value} {g' : Nat} {vs : List Value} (h : w.grownBy w' v.ownBlock) (hne : v.ownBlock ≠ some g') (hl : g' < w.heap.size) (hc : ∀ j u, vs[j]? = some u → w.cell? ((⟨g', 0, none⟩ : Addr).add j) = some u) :
    ∀ j u, vs[j]? = some u → w'.cell? ((⟨g', 0, none⟩ : Addr).add j) = some u := by
  intro j u hj
  have hb : ((⟨g', 0, none⟩ : Addr).add j).block = g' := by
    by_cases h0 : j = 0 <;> simp [Addr.add, h0]
  rw [World.cell?_of_block (h.block _ (by rw [hb]; exact hl) (by rw [hb]; exact fun e => hne e.symm))]
  exact hc j u hj
theorem own_ne {g g' n c : Nat} (h : g ≠ g') : (Value.slice (some ⟨g, 0, none⟩) n c).ownBlock ≠ some g' := by simpa [Value.ownBlock] using h

set_option maxHeartbeats 2000000 in
theorem l1number_neg (n : Int) (s : Nat) (a : Option Addr) (len cap : Nat) (w : World) (hs : s ≤ 6) (hn : 0 < n) (hn' : n ≤ 9223372036854775807) :
    Calls Tryz.prog 121 #[.agg #[.int .i64 3, .slice a len cap, .int .i64 (-n), .int .i64 s]] w fun e w' => DigRes w (45 :: numL n s) e w' := by
  have hn0 : 0 ≤ n := by omega
  have P := fun w => l1pow_any s w hs
  have hp := p10_pos s
  have hp6 := p10_le hs
  have d0 : 0 ≤ n / p10 s := Int.ediv_nonneg hn0 (by omega)
  have d1 : n / p10 s ≤ n := Int.ediv_le_self _ hn0
  have m0 : 0 ≤ n % p10 s := Int.emod_nonneg _ (by omega)
  have m1 : n % p10 s < p10 s := Int.emod_lt_of_pos _ (by omega)
  have D1 := fun w => l1digits_int (n / p10 s) w d0 (by omega)
  have D2 := fun w => l1digits_int (n % p10 s) w m0 (by omega)
  have hL1 := digitsL_len 19 (n / p10 s).toNat (by omega)
  have hL2 := digitsL_len 6 (n % p10 s).toNat (by omega)
  have hq1 := digitsL_pos (n / p10 s).toNat
  have hq2 := digitsL_pos (n % p10 s).toNat
  unfold numL
  generalize digitsL (n / p10 s).toNat = d at *
  generalize digitsL (n % p10 s).toNat = f at *
  have HX : Hid (∀ wr, Below (w.heap.size + 1) (w.alloc (.cells #[.int .i64 3, .slice a len cap, .int .i64 (-n), .int .i64 s] 24)) wr → wr.cell? ⟨w.heap.size, 3, none⟩ = some (.int .i64 s)) := fun wr h => (h.cell (p := ⟨w.heap.size, 3, none⟩) (Nat.lt_succ_self _)).trans (by simp [go_sem])
  have HW : Hid (∀ wr, Below (w.heap.size + 1) (w.alloc (.cells #[.int .i64 3, .slice a len cap, .int .i64 (-n), .int .i64 s] 24)) wr → Below w.heap.size w wr) := fun wr h => (bl_a (w := w) (.cells #[.int .i64 3, .slice a len cap, .int .i64 (-n), .int .i64 s] 24)).trans (h.mono (Nat.le_succ _))
  have HSZ : Hid (∀ wr, Below (w.heap.size + 1) (w.alloc (.cells #[.int .i64 3, .slice a len cap, .int .i64 (-n), .int .i64 s] 24)) wr → (w.heap.size + 1) ≤ wr.heap.size) := fun wr h => Nat.le_trans (by simp) h.size
  have HB0 : Hid (Below (w.heap.size + 1) (w.alloc (.cells #[.int .i64 3, .slice a len cap, .int .i64 (-n), .int .i64 s] 24)) ((w.alloc (.cells #[.int .i64 3, .slice a len cap, .int .i64 (-n), .int .i64 s] 24)).alloc (.cells #[.int .u8 45] 5))) := (Below.refl _ _).alloc (by simp) _
  have hB0 := HSZ.out _ HB0.out
  have HO0 : Hid (((w.alloc (.cells #[.int .i64 3, .slice a len cap, .int .i64 (-n), .int .i64 s] 24)).alloc (.cells #[.int .u8 45] 5)).ownsRow (w.heap.size + 1) 5 1 (.slice none 0 0) 0 (([] : List Int).map (Value.int .u8))) := World.ownsRow_nil _ _ _ _
  have HN0 : Hid (∀ j u, (([45] : List Int).map (Value.int .u8))[j]? = some u → ((w.alloc (.cells #[.int .i64 3, .slice a len cap, .int .i64 (-n), .int .i64 s] 24)).alloc (.cells #[.int .u8 45] 5)).cell? ((⟨(w.heap.size + 1), 0, none⟩ : Addr).add j) = some u) := by
    have h := one_news (w.alloc (.cells #[.int .i64 3, .slice a len cap, .int .i64 (-n), .int .i64 s] 24)) 45
    rw [show ((w.alloc (.cells #[.int .i64 3, .slice a len cap, .int .i64 (-n), .int .i64 s] 24))).heap.size = (w.heap.size + 1) by simp] at h
    exact h
  go_enter Tryz.func121, Tryz.ntmps121
  go_wp2_with (refine app8 rfl (.tmp 11) (.tmp 12) rfl (w.heap.size + 1) (.slice none 0 0) 0 [] rfl HO0 ⟨(w.heap.size + 1), 0, none⟩ 1 1 [45] rfl rfl HN0 (by omega) 1 rfl [45] rfl (by omega) hB0 ?_; intro gA cA wA HRA _ _ HBA'; have HBA : Hid (Below (w.heap.size + 1) (w.alloc (.cells #[.int .i64 3, .slice a len cap, .int .i64 (-n), .int .i64 s] 24)) wA) := HB0.out.trans HBA'.out; have hxA := HX.out wA HBA.out; clear HBA' HO0 HN0 HB0 hB0)
  refine (P _).mono ?_
  rintro e w1 ⟨rfl, rfl⟩
  go_wp2_with fail
  refine (D1 _).mono ?_
  rintro e w2 ⟨g2, cap2, rfl, hr2, hb2⟩
  have HN2 : Hid (∀ j u, (d.map (Value.int .u8))[j]? = some u → w2.cell? ((⟨g2, 0, none⟩ : Addr).add j) = some u) := hr2.news
  have HO2 : Hid (w2.ownsRow (w.heap.size + 1) 5 1 (.slice (some ⟨gA, 0, none⟩) 1 cA) 1 (([45] : List Int).map (Value.int .u8))) := (HRA.out.below hb2).1
  have HB2 : Hid (Below (w.heap.size + 1) (w.alloc (.cells #[.int .i64 3, .slice a len cap, .int .i64 (-n), .int .i64 s] 24)) w2) := HBA.out.trans (hb2.mono (HSZ.out _ HBA.out))
  have hB2 := HSZ.out _ HB2.out
  clear hr2 hb2 D1 HRA HBA hxA
  by_cases hs0 : s = 0
  · go_wp2_with (refine app8 rfl (.tmp 16) (.tmp 22) rfl (w.heap.size + 1) (.slice (some ⟨gA, 0, none⟩) 1 cA) 1 [45] rfl HO2 ⟨g2, 0, none⟩ d.length _ d rfl rfl HN2 (by omega) (1 + d.length) rfl (45 :: d) rfl (by omega) hB2 ?_; intro g3 cap3 w3 HR3 _ _ HB3'; have HB3 : Hid (Below (w.heap.size + 1) (w.alloc (.cells #[.int .i64 3, .slice a len cap, .int .i64 (-n), .int .i64 s] 24)) w3) := HB2.out.trans HB3'.out; have hx3 := HX.out w3 HB3.out; clear HB3' HO2 HN2 HB2 hB2)
    go_ret
    have el : (45 :: d : List Int).length = 1 + d.length := by simp; omega
    exact ⟨g3, cap3, by rw [el]; rfl, by rw [el]; exact HR3.out.mono (B' := w.heap.size) (Nat.le_succ _), HW.out _ HB3.out⟩
  · go_wp2_with (first
      | (refine app8 rfl (.tmp 16) (.tmp 22) rfl (w.heap.size + 1) (.slice (some ⟨gA, 0, none⟩) 1 cA) 1 [45] rfl HO2 ⟨g2, 0, none⟩ d.length _ d rfl rfl HN2 (by omega) (1 + d.length) rfl (45 :: d) rfl (by omega) hB2 ?_; intro g3 cap3 w3 HR3 _ _ HB3'; have HB3 : Hid (Below (w.heap.size + 1) (w.alloc (.cells #[.int .i64 3, .slice a len cap, .int .i64 (-n), .int .i64 s] 24)) w3) := HB2.out.trans HB3'.out; have hx3 := HX.out w3 HB3.out; have HO3 := (HR3.out.below (bl_a (.cells #[.int .u8 46] 5))).own; have HB3a : Hid (Below (w.heap.size + 1) (w.alloc (.cells #[.int .i64 3, .slice a len cap, .int .i64 (-n), .int .i64 s] 24)) (w3.alloc (.cells #[.int .u8 46] 5))) := HB3.out.alloc (HSZ.out _ HB3.out) _; have hB3a := HSZ.out _ HB3a.out; have HN3 : Hid (∀ j u, (([46] : List Int).map (Value.int .u8))[j]? = some u → (w3.alloc (.cells #[.int .u8 46] 5)).cell? ((⟨w3.heap.size, 0, none⟩ : Addr).add j) = some u) := one_news w3 46; clear HB3' HO2 HN2 HB2 hB2)
      | (refine app8 rfl (.tmp 28) (.tmp 29) rfl (w.heap.size + 1) (.slice (some ⟨g3, 0, none⟩) (1 + d.length) cap3) (1 + d.length) (45 :: d) rfl HO3 ⟨w3.heap.size, 0, none⟩ 1 1 [46] rfl rfl HN3 (by omega) (1 + d.length + 1) rfl (45 :: d ++ [46]) rfl (by omega) hB3a ?_; intro g4 cap4 w4 HR4 _ _ HB4'; have HB4 : Hid (Below (w.heap.size + 1) (w.alloc (.cells #[.int .i64 3, .slice a len cap, .int .i64 (-n), .int .i64 s] 24)) w4) := HB3a.out.trans HB4'.out; have hx4 := HX.out w4 HB4.out; clear HB4' HO3 HB3a hB3a HN3 HB3 HR3 hx3))
    refine (P _).mono ?_
    rintro e w4' ⟨rfl, rfl⟩
    go_wp2_with fail
    refine (D2 _).mono ?_
    rintro e w5 ⟨g5, cap5, rfl, hr5, hb5⟩
    have HR5 : Hid (Row8 w5 (w.heap.size + 1) g4 (1 + d.length + 1) cap4 (45 :: d ++ [46])) := HR4.out.below hb5
    have HB5 : Hid (Below (w.heap.size + 1) (w.alloc (.cells #[.int .i64 3, .slice a len cap, .int .i64 (-n), .int .i64 s] 24)) w5) := HB4.out.trans (hb5.mono (HSZ.out _ HB4.out))
    have HF5 : Hid (∀ j u, (f.map (Value.int .u8))[j]? = some u → w5.cell? ((⟨g5, 0, none⟩ : Addr).add j) = some u) := hr5.news
    have hg5 : g5 < w5.heap.size := hr5.2
    have hne5 : g4 ≠ g5 := by have := HR4.out.2; have := hr5.ge; omega
    have hx5 := HX.out w5 HB5.out
    clear hr5 hb5 HR4 HB4 D2 P hx4
    go_wp2_with fail
    go_loopw [3, 6] (fun x i wr => ∃ (k gx nx cx : Nat), f.length ≤ k ∧ (k ≤ s ∨ k = f.length) ∧ i = .int .i64 k ∧ x = .slice (some ⟨gx, 0, none⟩) nx cx ∧ nx = 1 + d.length + 1 + (k - f.length) ∧ gx ≠ g5 ∧ g5 < wr.heap.size ∧ Hid (Row8 wr (w.heap.size + 1) gx nx cx (45 :: (d ++ 46 :: List.replicate (k - f.length) 48))) ∧ Hid (Below (w.heap.size + 1) (w.alloc (.cells #[.int .i64 3, .slice a len cap, .int .i64 (-n), .int .i64 s] 24)) wr) ∧ Hid (∀ j u, (f.map (Value.int .u8))[j]? = some u → wr.cell? ((⟨g5, 0, none⟩ : Addr).add j) = some u))
      (fun _ i _ => s - (intOf i).toNat)
    case atStart => exact ⟨f.length, g4, 1 + d.length + 1, cap4, Nat.le_refl _, .inr rfl, rfl, rfl, by omega, hne5, hg5, by simpa using HR5, HB5, HF5⟩
    case round =>
      obtain ⟨k, gx, nx, cx, hk, hks, rfl, rfl, hnx, hne, hg, HR, HB, HF⟩ := hrel
      have hbox := HX.out wr HB.out
      have HNX : Hid (nx = 1 + d.length + 1 + (k - f.length)) := hnx
      have hnb : nx ≤ 40 := by omega
      have hov := own_ne (n := nx) (c := cx) hne
      clear hnx HR5 HB5 HF5 hg5 hne5 hx5
      by_cases hlt : k < s
      · have HO1 := (HR.out.below (bl_a (.cells #[.int .u8 48] 5))).own
        have HB1 : Hid (Below (w.heap.size + 1) (w.alloc (.cells #[.int .i64 3, .slice a len cap, .int .i64 (-n), .int .i64 s] 24)) (wr.alloc (.cells #[.int .u8 48] 5))) := HB.out.alloc (HSZ.out _ HB.out) _
        have hB1 := HSZ.out _ HB1.out
        have HN1 : Hid (∀ j u, (([48] : List Int).map (Value.int .u8))[j]? = some u → (wr.alloc (.cells #[.int .u8 48] 5)).cell? ((⟨wr.heap.size, 0, none⟩ : Addr).add j) = some u) := one_news wr 48
        have HF1 : Hid (∀ j u, (f.map (Value.int .u8))[j]? = some u → (wr.alloc (.cells #[.int .u8 48] 5)).cell? ((⟨g5, 0, none⟩ : Addr).add j) = some u) := news_alloc _ hg HF.out
        have hg1 : g5 < (wr.alloc (.cells #[.int .u8 48] 5)).heap.size := by simp; omega
        go_wp2_with (refine app8 rfl (.tmp 45) (.tmp 46) rfl (w.heap.size + 1) (.slice (some ⟨gx, 0, none⟩) nx cx) nx (45 :: (d ++ 46 :: List.replicate (k - f.length) 48)) rfl HO1 ⟨wr.heap.size, 0, none⟩ 1 1 [48] rfl rfl HN1 (by omega) (nx + 1) rfl ((45 :: (d ++ 46 :: List.replicate (k - f.length) 48)) ++ [48]) rfl (by omega) hB1 ?_; intro g6 cap6 w6 HR6 hgr6 hat6 HB6'; have HB6 : Hid (Below (w.heap.size + 1) (w.alloc (.cells #[.int .i64 3, .slice a len cap, .int .i64 (-n), .int .i64 s] 24)) w6) := HB1.out.trans HB6'.out; have HF6 : Hid (∀ j u, (f.map (Value.int .u8))[j]? = some u → w6.cell? ((⟨g5, 0, none⟩ : Addr).add j) = some u) := news_past hgr6.out hov hg1 HF1.out; have hg6 : g5 < w6.heap.size := Nat.lt_of_lt_of_le hg1 hgr6.out.size; have hne6 : g6 ≠ g5 := away hat6.out hov hg1; clear hgr6 hat6 HB6')
        go_roundw
        case rel =>
          refine ⟨k + 1, g6, nx + 1, cap6, by omega, by omega, by go_num, rfl, by have := HNX.out; omega, hne6, hg6, ?_, HB6, HF6⟩
          have h := HR6.out
          show Row8 _ _ _ _ _ _
          have e : k + 1 - f.length = (k - f.length) + 1 := by omega
          rw [e, List.replicate_succ']
          simpa using h
        case measure => simp [intOf]; omega
      · have HO1 := HR.out.own
        have hB1 := HSZ.out _ HB.out
        go_wp2_with (refine app8 rfl (.tmp 48) (.tmp 49) rfl (w.heap.size + 1) (.slice (some ⟨gx, 0, none⟩) nx cx) nx (45 :: (d ++ 46 :: List.replicate (k - f.length) 48)) rfl HO1 ⟨g5, 0, none⟩ f.length _ f rfl rfl HF (by omega) (nx + f.length) rfl ((45 :: (d ++ 46 :: List.replicate (k - f.length) 48)) ++ f) rfl (by omega) hB1 ?_; intro g7 cap7 w7 HR7 _ _ HB7'; have HB7 : Hid (Below (w.heap.size + 1) (w.alloc (.cells #[.int .i64 3, .slice a len cap, .int .i64 (-n), .int .i64 s] 24)) w7) := HB.out.trans HB7'.out; clear HB7')
        go_ret
        have e : k - f.length = s - f.length := by omega
        have h := HR7.out.mono (B' := w.heap.size) (Nat.le_succ _)
        rw [e] at h
        have el : (45 :: (d ++ 46 :: (List.replicate (s - f.length) 48 ++ f)) : List Int).length = nx + f.length := by have := HNX.out; simp; omega
        exact ⟨g7, cap7, by rw [el]; rfl, by rw [el]; simpa using h, HW.out _ HB7.out⟩
end Go.Proofs.YtoclingolfdfeaaGreatDoor

/- ShwH -/
namespace Go.Proofs.YtoclingolfdfeaaGreatDoor
open Go.RowKit Go.Deep
set_option maxRecDepth 100000

/-- What a term that may be shows as. -/
def showL (k n s : Int) (bs : List Int) : List Int :=
  if k = 0 then 60 :: (bs ++ [62]) else if k = 1 then 95 :: 58 :: digitsL n.toNat else if k = 2 then 34 :: (esc bs ++ [34]) else if n < 0 then 45 :: numL (-n) s.toNat else numL n s.toNat
/-- What Show writes. -/
def shownL (k n s : Int) (bs : List Int) : List Int := if termOk k bs n s = true then showL k n s bs else []

theorem digitsL_byt (n : Nat) : Byt (digitsL n) := by
  induction n using Nat.strongRecOn with
  | ind n ih =>
    by_cases h : n < 10
    · rw [digitsL_small h]
      exact Byt.cons (by omega) Byt.nil
    · rw [digitsL_step h]
      exact (ih (n / 10) (by omega)).app (Byt.cons (by omega) Byt.nil)
theorem esc_byt {bs : List Int} (h : Byt bs) : Byt (esc bs) := by
  intro x hx
  unfold esc at hx
  obtain ⟨b, hb, hx⟩ := List.mem_flatMap.1 hx
  have := h b hb
  split at hx
  · simp at hx
    rcases hx with rfl | rfl
    · omega
    · exact this
  · simp at hx
    subst hx
    exact this
theorem rep_byt (n : Nat) : Byt (List.replicate n 48) := by
  intro x hx
  have := (List.mem_replicate.1 hx).2
  omega
theorem numL_byt (n : Int) (s : Nat) : Byt (numL n s) := by
  unfold numL
  refine (digitsL_byt _).app ?_
  split
  · exact Byt.nil
  · exact Byt.cons (by omega) ((rep_byt _).app (digitsL_byt _))
theorem showL_byt {k n s : Int} {bs : List Int} (h : Byt bs) : Byt (showL k n s bs) := by
  unfold showL
  split
  · exact Byt.cons (by omega) (h.app (Byt.cons (by omega) Byt.nil))
  split
  · exact Byt.cons (by omega) (Byt.cons (by omega) (digitsL_byt _))
  split
  · exact Byt.cons (by omega) ((esc_byt h).app (Byt.cons (by omega) Byt.nil))
  split
  · exact Byt.cons (by omega) (numL_byt _ _)
  · exact numL_byt _ _
theorem numOk_bounds {n s : Int} (h : numOk n s = true) : 0 ≤ s ∧ s ≤ 6 ∧ -1000000000000000 ≤ n ∧ n ≤ 1000000000000000 := by
  simp [numOk] at h
  exact ⟨h.1.1.1.1, h.1.1.1.2, h.1.1.2, h.1.2⟩
theorem numL_len (n : Int) (s : Nat) (h0 : 0 ≤ n) (h1 : n ≤ 1000000000000000) (hs : s ≤ 6) : 1 ≤ (numL n s).length ∧ (numL n s).length ≤ 40 := by
  have hp := p10_pos s
  have hp6 := p10_le hs
  have d0 : 0 ≤ n / p10 s := Int.ediv_nonneg h0 (by omega)
  have d1 : n / p10 s ≤ n := Int.ediv_le_self _ h0
  have m0 : 0 ≤ n % p10 s := Int.emod_nonneg _ (by omega)
  have m1 : n % p10 s < p10 s := Int.emod_lt_of_pos _ (by omega)
  have hL1 := digitsL_len 16 (n / p10 s).toNat (by omega)
  have hL2 := digitsL_len 6 (n % p10 s).toNat (by omega)
  have hq1 := digitsL_pos (n / p10 s).toNat
  unfold numL
  split
  · simp; omega
  · simp; omega
theorem showL_len {k n s : Int} {bs : List Int} (h : termOk k bs n s = true) : 1 ≤ (showL k n s bs).length ∧ (showL k n s bs).length ≤ 64 := by
  unfold showL
  unfold termOk at h
  split at h
  · rename_i hk
    rw [if_pos hk]
    simp [nameOk] at h
    simp
    omega
  split at h
  · rename_i h0 hk
    rw [if_neg h0, if_pos hk]
    have := digitsL_len 18 n.toNat (by simp at h; omega)
    simp
    omega
  split at h
  · rename_i h0 h1 hk
    rw [if_neg h0, if_neg h1, if_pos hk]
    simp [textOk] at h
    have := esc_len bs
    simp
    omega
  split at h
  · rename_i h0 h1 h2 hk
    rw [if_neg h0, if_neg h1, if_neg h2]
    simp only [Bool.and_eq_true] at h
    have hb := numOk_bounds h.2
    split
    · have := numL_len (-n) s.toNat (by omega) (by omega) (by omega)
      simp
      omega
    · have := numL_len n s.toNat (by omega) (by omega) (by omega)
      omega
  · cases h
/-- A text that is new: none, or in a block of its own from B on. -/
def Nw (w : World) (B : Nat) (a : Option Addr) (len : Nat) (bs : List Int) : Prop := (a = none ∧ len = 0 ∧ bs = []) ∨ ∃ g, a = some ⟨g, 0, none⟩ ∧ B ≤ g ∧ OwnT w g len bs
theorem Nw.bs {w : World} {B : Nat} {a : Option Addr} {len : Nat} {bs : List Int} (h : Nw w B a len bs) : Bs w a len bs := by
  rcases h with ⟨rfl, rfl, rfl⟩ | ⟨g, rfl, _, ho⟩
  · exact ⟨rfl, by omega, by simp, .inl rfl⟩
  · exact ho.1
theorem Nw.below {w w' : World} {B : Nat} {a : Option Addr} {len : Nat} {bs : List Int} (h : Nw w B a len bs) (hb : Below w.heap.size w w') : Nw w' B a len bs := by
  rcases h with h | ⟨g, ha, hB, ho⟩
  · exact .inl h
  · exact .inr ⟨g, ha, hB, ho.below hb⟩
theorem Nw.mono {w : World} {B B' : Nat} {a : Option Addr} {len : Nat} {bs : List Int} (h : Nw w B a len bs) (hB' : B' ≤ B) : Nw w B' a len bs := by
  rcases h with h | ⟨g, ha, hB, ho⟩
  · exact .inl h
  · exact .inr ⟨g, ha, by omega, ho⟩
theorem Nw.nil (w : World) (B : Nat) : Nw w B none 0 [] := .inl ⟨rfl, rfl, rfl⟩
theorem Row8.nw {w : World} {B g n cap : Nat} {bs : List Int} (h : Row8 w B g n cap bs) (hb : Byt bs) (hl : n ≤ 1048576) : Nw w B (some ⟨g, 0, none⟩) n bs := by
  have hn := h.news
  have hge := h.ge
  have hlen := h.len
  refine .inr ⟨g, rfl, hge, ⟨hlen, hl, hb.get, .inr ⟨g, 0, rfl, h.2, fun i hi => ?_⟩⟩, h.2, fun i hi => ?_, fun i hi => ?_⟩
  · have ea : (⟨g, 0, none⟩ : Addr).add i = ⟨g, 0 + i, none⟩ := by
      by_cases h0 : i = 0 <;> simp [Addr.add, h0]
    rw [← ea]
    refine hn i _ ?_
    rw [List.getElem?_map, List.getElem?_eq_getElem (by omega)]
    rfl
  · have ea : (⟨g, 0, none⟩ : Addr).add i = ⟨g, i, none⟩ := by
      by_cases h0 : i = 0 <;> simp [Addr.add, h0]
    refine ⟨bs[i]?.getD 0, ?_⟩
    rw [← ea]
    refine hn i _ ?_
    rw [List.getElem?_map, List.getElem?_eq_getElem (by omega)]
    rfl
  · rcases h.1.2 with ⟨hv, _⟩ | ⟨g', cap', cur, hv, hB, hh, _⟩
    · cases hv
    · cases hv
      simp [World.frozen?, hh]
theorem Tx.nw {w : World} {B : Nat} {a : Option Addr} {len cap : Nat} {bs : List Int} (h : Tx w B a len cap bs) : Nw w B a len bs := by
  rcases h.2 with ⟨rfl, rfl, _⟩ | ⟨g, rfl, hB, hg, hl, hc⟩
  · exact .inl ⟨rfl, rfl, List.eq_nil_of_length_eq_zero h.1.1⟩
  · exact .inr ⟨g, rfl, hB, h.1, hg, fun i hi => (hc i (by omega)).1, fun i hi => (hc i (by omega)).2⟩

/-- What Show answers. -/
def TxRes (w : World) (bs : List Int) (e : Ending) (w' : World) : Prop := ∃ a cap, e = .returned (.slice a bs.length cap) ∧ Nw w' w.heap.size a bs.length bs ∧ Below w.heap.size w w'
theorem DigRes.tx {w : World} {bs : List Int} {e : Ending} {w' : World} (h : DigRes w bs e w') (hb : Byt bs) (hl : bs.length ≤ 1048576) : TxRes w bs e w' := by
  obtain ⟨g, cap, he, hr, hbl⟩ := h
  exact ⟨_, cap, he, hr.nw hb hl, hbl⟩
theorem TxRes.later {w w1 : World} {bs : List Int} {e : Ending} {w' : World} (h : TxRes w1 bs e w') (hb : Below w.heap.size w w1) : TxRes w bs e w' := by
  obtain ⟨a, cap, he, hr, hbl⟩ := h
  exact ⟨a, cap, he, hr.mono hb.size, bl_trans hb hbl⟩
theorem DigRes.later {w w1 : World} {bs : List Int} {e : Ending} {w' : World} (h : DigRes w1 bs e w') (hb : Below w.heap.size w w1) : DigRes w bs e w' := by
  obtain ⟨g, cap, he, hr, hbl⟩ := h
  exact ⟨g, cap, he, hr.mono hb.size, bl_trans hb hbl⟩

end Go.Proofs.YtoclingolfdfeaaGreatDoor

/- ShwM -/
namespace Go.Proofs.YtoclingolfdfeaaGreatDoor
open Go.RowKit Go.Deep
set_option maxRecDepth 100000

/-- What digits are worth. -/
def valL (l : List Int) : Nat := l.foldl (fun a d => a * 10 + (d - 48).toNat) 0
theorem valL_snoc (l : List Int) (d : Int) : valL (l ++ [d]) = valL l * 10 + (d - 48).toNat := by simp [valL]
theorem valL_digits (n : Nat) : valL (digitsL n) = n := by
  induction n using Nat.strongRecOn with
  | ind n ih =>
    by_cases h : n < 10
    · rw [digitsL_small h]
      simp [valL]
      omega
    · rw [digitsL_step h, valL_snoc, ih (n / 10) (by omega)]
      omega
theorem valL_zeros (m : Nat) (l : List Int) : valL (List.replicate m 48 ++ l) = valL l := by
  induction m with
  | zero => simp
  | succ m ih =>
    rw [List.replicate_succ, List.cons_append]
    simp only [valL, List.foldl_cons] at ih ⊢
    simpa using ih
theorem digitsL_mem (n : Nat) : ∀ d ∈ digitsL n, 48 ≤ d ∧ d ≤ 57 := by
  induction n using Nat.strongRecOn with
  | ind n ih =>
    intro d hd
    by_cases h : n < 10
    · rw [digitsL_small h] at hd
      simp only [List.mem_cons, List.not_mem_nil, or_false] at hd
      omega
    · rw [digitsL_step h, List.mem_append] at hd
      rcases hd with hd | hd
      · exact ih (n / 10) (by omega) d hd
      · simp only [List.mem_cons, List.not_mem_nil, or_false] at hd
        omega
theorem dig_no (n : Nat) : (46 : Int) ∉ digitsL n := fun h => by have := digitsL_mem n 46 h; omega

theorem p10_pow (s : Nat) : p10 s = ((10 ^ s : Nat) : Int) := by
  induction s with
  | zero => rfl
  | succ s ih =>
    show p10 s * 10 = _
    rw [ih, Nat.pow_succ]
    push_cast
    rfl
theorem frac_len (n : Int) (s : Nat) (hs : 1 ≤ s) : (List.replicate (s - (digitsL (n % p10 s).toNat).length) (48 : Int) ++ digitsL (n % p10 s).toNat).length = s := by
  have hp : 0 < p10 s := by
    rw [p10_pow]
    exact_mod_cast Nat.pow_pos (by omega)
  have h1 := Int.emod_nonneg n (by omega : p10 s ≠ 0)
  have h2 := Int.emod_lt_of_pos n hp
  have hlt : (n % p10 s).toNat < 10 ^ (s - 1 + 1) := by
    rw [show s - 1 + 1 = s by omega]
    rw [p10_pow] at h1 h2 ⊢
    omega
  have := digitsL_len (s - 1) _ hlt
  rw [List.length_append, List.length_replicate]
  omega
theorem num_head (n : Int) (s : Nat) : ∃ d r, numL n s = d :: r ∧ 48 ≤ d ∧ d ≤ 57 := by
  unfold numL
  have h1 := digitsL_mem (n / p10 s).toNat
  cases hd : digitsL (n / p10 s).toNat with
  | nil =>
    have := digitsL_pos (n / p10 s).toNat
    rw [hd] at this
    simp at this
  | cons d r =>
    rw [hd] at h1
    exact ⟨d, _, rfl, h1 d (List.mem_cons_self ..)⟩
end Go.Proofs.YtoclingolfdfeaaGreatDoor

/- RdA -/
namespace Go.Proofs.YtoclingolfdfeaaGreatDoor
open Go.RowKit Go.Deep
set_option maxRecDepth 100000

def great (b : Int) : Bool := decide (65 ≤ b) && decide (b ≤ 90)
def gapB (b : Int) : Bool := b == 32 || b == 10
def ofPiece (b : Int) : Bool := letter b || great b || digit b
def digitHd : List Int → Bool
  | [] => false
  | d :: _ => digit d
/-- How long the piece is that begins here. -/
def pieceLen : List Int → Nat
  | [] => 0
  | b :: r => if (ofPiece b || (b == 46 && digitHd r)) = true then pieceLen r + 1 else 0
/-- How many great letters stand here. -/
def greatLen : List Int → Nat
  | [] => 0
  | b :: r => if great b = true then greatLen r + 1 else 0
theorem pieceLen_le : ∀ l : List Int, pieceLen l ≤ l.length
  | [] => Nat.le_refl _
  | b :: r => by
    unfold pieceLen
    have := pieceLen_le r
    split <;> simp <;> omega
theorem greatLen_le : ∀ l : List Int, greatLen l ≤ l.length
  | [] => Nat.le_refl _
  | b :: r => by
    unfold greatLen
    have := greatLen_le r
    split <;> simp <;> omega

/-- What lies ahead of the first point, and behind it. -/
def cutDot : List Int → List Int × List Int
  | [] => ([], [])
  | b :: r => if b = 46 then ([], r) else (b :: (cutDot r).1, (cutDot r).2)
theorem cutDot_at {a : List Int} (f : List Int) (ha : (46 : Int) ∉ a) : cutDot (a ++ 46 :: f) = (a, f) := by
  induction a with
  | nil => simp [cutDot]
  | cons x a ih =>
    have h1 : x ≠ 46 := fun e => ha (by rw [e]; exact List.mem_cons_self ..)
    have h2 := ih (fun h => ha (List.mem_cons_of_mem _ h))
    simp [cutDot, h1, h2]
theorem cutDot_none {a : List Int} (ha : (46 : Int) ∉ a) : cutDot a = (a, []) := by
  induction a with
  | nil => rfl
  | cons x a ih =>
    have h1 : x ≠ 46 := fun e => ha (by rw [e]; exact List.mem_cons_self ..)
    have h2 := ih (fun h => ha (List.mem_cons_of_mem _ h))
    simp [cutDot, h1, h2]
theorem valL_from (l : List Int) : ∀ a : Nat, l.foldl (fun a d => a * 10 + (d - 48).toNat) a = a * 10 ^ l.length + valL l := by
  unfold valL
  induction l with
  | nil => intro a; simp
  | cons x l ih =>
    intro a
    rw [List.foldl_cons, ih, List.foldl_cons, ih (0 * 10 + (x - 48).toNat), List.length_cons, Nat.pow_succ, Nat.add_mul, Nat.mul_assoc, Nat.mul_comm 10 (10 ^ l.length), Nat.zero_mul, Nat.zero_add]
    omega
theorem valL_append (a f : List Int) : valL (a ++ f) = valL a * 10 ^ f.length + valL f := by
  rw [show valL (a ++ f) = f.foldl (fun a d => a * 10 + (d - 48).toNat) (valL a) by unfold valL; rw [List.foldl_append], valL_from]
/-- A number's candidate. -/
def candB (l : List Int) : Int × Int := ((valL ((cutDot l).1 ++ (cutDot l).2) : Nat), ((cutDot l).2.length : Nat))
def candN : List Int → Int × Int
  | [] => (0, 0)
  | b :: r => if b = 45 then (-(candB r).1, (candB r).2) else candB (b :: r)
theorem numL_cut (m : Int) (k : Nat) : cutDot (numL m k) = (digitsL (m / p10 k).toNat, if k = 0 then [] else List.replicate (k - (digitsL (m % p10 k).toNat).length) 48 ++ digitsL (m % p10 k).toNat) := by
  unfold numL
  by_cases hk : k = 0
  · rw [if_pos hk, if_pos hk, List.append_nil, cutDot_none (dig_no _)]
  · rw [if_neg hk, if_neg hk, cutDot_at _ (dig_no _)]
theorem candB_num (m : Int) (k : Nat) (h0 : 0 ≤ m) : candB (numL m k) = (m, (k : Int)) := by
  unfold candB
  rw [numL_cut]
  have hp : 0 < p10 k := by
    rw [p10_pow]
    exact_mod_cast Nat.pow_pos (by omega)
  have b1 := Int.ediv_nonneg h0 (Int.le_of_lt hp)
  by_cases hk : k = 0
  · subst hk
    simp only [if_true, List.append_nil, List.length_nil]
    rw [valL_digits, show p10 0 = 1 from rfl, Int.ediv_one]
    simp
    omega
  · simp only [if_neg hk]
    rw [valL_append, frac_len m k (by omega), valL_zeros, valL_digits, valL_digits]
    have a1 := Int.emod_nonneg m (by omega : p10 k ≠ 0)
    have c1 := Int.mul_ediv_add_emod m (p10 k)
    refine Prod.ext ?_ rfl
    simp only
    push_cast
    rw [Int.toNat_of_nonneg b1, Int.toNat_of_nonneg a1]
    rw [p10_pow] at c1 ⊢
    push_cast at c1 ⊢
    rw [Int.mul_comm]
    exact c1
theorem candN_show {n s : Int} (hs : 0 ≤ s) : candN (showL 3 n s []) = (n, s) := by
  by_cases hn : n < 0
  · have e : showL 3 n s [] = 45 :: numL (-n) s.toNat := by simp [showL, hn]
    rw [e]
    simp only [candN, if_true]
    rw [candB_num _ _ (by omega)]
    refine Prod.ext ?_ ?_ <;> simp <;> omega
  · have e : showL 3 n s [] = numL n s.toNat := by simp [showL, hn]
    obtain ⟨d, r, e2, hd⟩ := num_head n s.toNat
    rw [e, e2]
    simp only [candN]
    rw [if_neg (by omega), ← e2, candB_num _ _ (by omega)]
    refine Prod.ext rfl ?_
    simp
    omega
/-- The number that is written so. -/
def numOf (raw : List Int) : Option (Int × Int) := if numOk (candN raw).1 (candN raw).2 = true ∧ showL 3 (candN raw).1 (candN raw).2 [] = raw then some (candN raw) else none
theorem numOf_some {raw : List Int} {n s : Int} : numOf raw = some (n, s) ↔ numOk n s = true ∧ showL 3 n s [] = raw := by
  unfold numOf
  constructor
  · intro h
    split at h
    · rename_i h1
      simp only [Option.some.injEq] at h
      rw [h] at h1
      exact h1
    · cases h
  · rintro ⟨h1, h2⟩
    have hs := (numOk_bounds h1).1
    have e : candN raw = (n, s) := by rw [← h2, candN_show hs]
    rw [e, if_pos ⟨h1, h2⟩]
/-- The number of a blank that is written so. -/
def blankOf (p : List Int) : Option Nat := if valL p ≤ 999999 ∧ digitsL (valL p) = p then some (valL p) else none
theorem blankOf_some {p : List Int} {n : Nat} : blankOf p = some n ↔ n ≤ 999999 ∧ digitsL n = p := by
  unfold blankOf
  constructor
  · intro h
    split at h
    · rename_i h1
      simp only [Option.some.injEq] at h
      rw [h] at h1
      exact h1
    · cases h
  · rintro ⟨h1, h2⟩
    have e : valL p = n := by rw [← h2, valL_digits]
    rw [e, if_pos ⟨h1, h2⟩]

/-- A text behind its first sign: what it says, and how long it is with its last sign. -/
def quoteF : Bool → List Int → Option (List Int × Nat)
  | _, [] => none
  | false, b :: r => if b = 34 then some ([], 1) else if b = 92 then (quoteF true r).map fun p => (p.1, p.2 + 1) else (quoteF false r).map fun p => (b :: p.1, p.2 + 1)
  | true, b :: r => if b = 34 ∨ b = 92 then (quoteF false r).map fun p => (b :: p.1, p.2 + 1) else none
theorem quoteF_esc (tx r : List Int) : quoteF false (esc tx ++ 34 :: r) = some (tx, (esc tx).length + 1) := by
  induction tx with
  | nil => simp [esc, quoteF]
  | cons b tx ih =>
    have e : esc (b :: tx) = (if b = 34 ∨ b = 92 then [92, b] else [b]) ++ esc tx := rfl
    rw [e]
    split
    · rename_i h
      simp only [List.cons_append, List.nil_append]
      rw [quoteF, if_neg (by omega), if_pos rfl, quoteF, if_pos h, ih]
      simp
    · rename_i h
      simp only [List.cons_append, List.nil_append]
      rw [quoteF, if_neg (by omega), if_neg (by omega), ih]
      simp
theorem quoteF_some : ∀ (r : List Int), (∀ tx m, quoteF false r = some (tx, m) → r.take m = esc tx ++ [34]) ∧ (∀ tx m, quoteF true r = some (tx, m) → (92 :: r).take (m + 1) = esc tx ++ [34])
  | [] => by simp [quoteF]
  | b :: r => by
    have ih := quoteF_some r
    refine ⟨fun tx m h => ?_, fun tx m h => ?_⟩
    · rw [quoteF] at h
      split at h
      · rename_i hb
        simp only [Option.some.injEq, Prod.mk.injEq] at h
        obtain ⟨rfl, rfl⟩ := h
        simp [hb, esc]
      · split at h
        · rename_i hb
          obtain ⟨⟨tx', m'⟩, h1, h2⟩ := Option.map_eq_some_iff.1 h
          simp only [Prod.mk.injEq] at h2
          obtain ⟨rfl, rfl⟩ := h2
          rw [hb]
          exact ih.2 _ _ h1
        · rename_i hb hb2
          obtain ⟨⟨tx', m'⟩, h1, h2⟩ := Option.map_eq_some_iff.1 h
          simp only [Prod.mk.injEq] at h2
          obtain ⟨rfl, rfl⟩ := h2
          have := ih.1 _ _ h1
          have e : esc (b :: tx') = (if b = 34 ∨ b = 92 then [92, b] else [b]) ++ esc tx' := rfl
          rw [e, if_neg (by omega), List.take_succ_cons, this]
          rfl
    · rw [quoteF] at h
      split at h
      · rename_i hb
        obtain ⟨⟨tx', m'⟩, h1, h2⟩ := Option.map_eq_some_iff.1 h
        simp only [Prod.mk.injEq] at h2
        obtain ⟨rfl, rfl⟩ := h2
        have := ih.1 _ _ h1
        have e : esc (b :: tx') = (if b = 34 ∨ b = 92 then [92, b] else [b]) ++ esc tx' := rfl
        rw [e, if_pos hb, List.take_succ_cons, List.take_succ_cons, this]
        rfl
      · cases h
theorem quoteF_le (r tx : List Int) (m : Nat) (h : quoteF false r = some (tx, m)) : m ≤ r.length := by
  suffices ∀ (r : List Int) (f : Bool) (tx : List Int) (m : Nat), quoteF f r = some (tx, m) → m ≤ r.length from this r false tx m h
  intro r
  induction r with
  | nil => intro f tx m h; cases f <;> simp [quoteF] at h
  | cons b r ih =>
    intro f tx m h
    cases f with
    | false =>
      rw [quoteF] at h
      split at h
      · simp only [Option.some.injEq, Prod.mk.injEq] at h
        simp
        omega
      · split at h
        · obtain ⟨⟨tx', m'⟩, h1, h2⟩ := Option.map_eq_some_iff.1 h
          have := ih _ _ _ h1
          simp only [Prod.mk.injEq] at h2
          simp
          omega
        · obtain ⟨⟨tx', m'⟩, h1, h2⟩ := Option.map_eq_some_iff.1 h
          have := ih _ _ _ h1
          simp only [Prod.mk.injEq] at h2
          simp
          omega
    | true =>
      rw [quoteF] at h
      split at h
      · obtain ⟨⟨tx', m'⟩, h1, h2⟩ := Option.map_eq_some_iff.1 h
        have := ih _ _ _ h1
        simp only [Prod.mk.injEq] at h2
        simp
        omega
      · cases h

/-- A token: 0 a term, 1 a variable, 2 a word, 3 a sign; its bytes; its term. -/
structure PT where
  kind : Nat
  raw : List Int
  td : TD
def td0 : TD := ⟨0, [], 0, 0⟩
def signB (b : Int) : Bool := [46, 123, 125, 40, 41, 42, 43, 45, 47, 61, 60, 38, 124].contains b
/-- The token that a text begins with. -/
def tokOf : List Int → Option PT
  | [] => none
  | b :: r =>
    if (digit b || (b == 45 && digitHd r)) = true then (numOf (b :: r.take (pieceLen r))).map fun p => ⟨0, b :: r.take (pieceLen r), ⟨3, [], p.1, p.2⟩⟩
    else if (b == 60 && nameOk (r.take (pieceLen r)) && (r.drop (pieceLen r))[0]? == some 62) = true then some ⟨0, 60 :: (r.take (pieceLen r) ++ [62]), ⟨0, r.take (pieceLen r), 0, 0⟩⟩
    else if b = 34 then (quoteF false r).bind fun p => if textOk p.1 = true then some ⟨0, 34 :: r.take p.2, ⟨2, p.1, 0, 0⟩⟩ else none
    else if (b == 95 && r[0]? == some 58) = true then (blankOf ((r.drop 1).take (pieceLen (r.drop 1)))).map fun n => ⟨0, 95 :: 58 :: (r.drop 1).take (pieceLen (r.drop 1)), ⟨1, [], n, 0⟩⟩
    else if (b == 63 && nameOk (r.take (pieceLen r))) = true then some ⟨1, 63 :: r.take (pieceLen r), td0⟩
    else if great b = true then some ⟨2, (b :: r).take (greatLen (b :: r)), td0⟩
    else if signB b = true then some ⟨3, [b], td0⟩ else none
end Go.Proofs.YtoclingolfdfeaaGreatDoor
