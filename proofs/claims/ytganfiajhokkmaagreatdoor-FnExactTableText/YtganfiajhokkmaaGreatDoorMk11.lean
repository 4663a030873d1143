/- Texts put together: ShwF ShwG -/
import Derived.Test.YtganfiajhokkmaaGreatDoorMk10
import Derived.Test.YtganfiajhokkmaaGreatDoorMk02
/- ShwF -/
namespace Go.Proofs.YtganfiajhokkmaaGreatDoor
open Go.RowKit Go.Deep
set_option maxRecDepth 100000

theorem l1digits_int (k : Int) (w : World) (h0 : 0 ≤ k) (h1 : k ≤ 9223372036854775807) : Calls Tryz.prog 52 #[.int .i64 k] w fun e w' => DigRes w (digitsL k.toNat) e w' := by
  have := l1digits_any k.toNat w (by omega)
  rwa [Int.toNat_of_nonneg h0] at this

/-- What a number shows as, less its sign. -/
def numL (n : Int) (s : Nat) : List Int :=
  digitsL (n / p10 s).toNat ++ (if s = 0 then [] else 46 :: (List.replicate (s - (digitsL (n % p10 s).toNat).length) 48 ++ digitsL (n % p10 s).toNat))

theorem below_nil {w w' : World} {B : Nat} (h : w.grownBy w' none) (hw : B ≤ w.heap.size) : Below B w w' :=
  ⟨h.os, h.tape, h.output, h.size, fun b hb => h.block b (by omega) (by simp)⟩

/-- A row's cells, at another row's growing. -/
theorem news_grown {w w' : World} {g g' : Nat} {vs : List Value} (h : w.grownBy w' (some g)) (hne : g' ≠ g) (hl : g' < w.heap.size) (hc : ∀ j u, vs[j]? = some u → w.cell? ((⟨g', 0, none⟩ : Addr).add j) = some u) :
    ∀ j u, vs[j]? = some u → w'.cell? ((⟨g', 0, none⟩ : Addr).add j) = some u := by
  intro j u hj
  have hb : ((⟨g', 0, none⟩ : Addr).add j).block = g' := by
    by_cases h0 : j = 0 <;> simp [Addr.add, h0]
  rw [World.cell?_of_block (h.block _ (by rw [hb]; exact hl) (by rw [hb]; simpa using hne))]
  exact hc j u hj
theorem news_alloc {w : World} {g' : Nat} {vs : List Value} (o : Obj) (hl : g' < w.heap.size) (hc : ∀ j u, vs[j]? = some u → w.cell? ((⟨g', 0, none⟩ : Addr).add j) = some u) :
    ∀ j u, vs[j]? = some u → (w.alloc o).cell? ((⟨g', 0, none⟩ : Addr).add j) = some u := by
  intro j u hj
  have hb : ((⟨g', 0, none⟩ : Addr).add j).block = g' := by
    by_cases h0 : j = 0 <;> simp [Addr.add, h0]
  rw [(bl_a (w := w) o).cell (by rw [hb]; exact hl)]
  exact hc j u hj

theorem far {gx g6 g5 H nx cx : Nat} (h : (Value.slice (some ⟨gx, 0, none⟩) nx cx).ownBlock = some g6 ∨ g6 = H) (hne : gx ≠ g5) (hl : g5 < H) : g6 ≠ g5 := by
  rcases h with h | h
  · have : gx = g6 := by simpa [Value.ownBlock] using h
    omega
  · omega

set_option maxHeartbeats 1000000 in
theorem l1number_pos (n : Int) (s : Nat) (a : Option Addr) (len cap : Nat) (w : World) (hs : s ≤ 6) (hn : 0 ≤ n) (hn' : n ≤ 9223372036854775807) :
    Calls Tryz.prog 53 #[.agg #[.int .i64 3, .slice a len cap, .int .i64 n, .int .i64 s]] w fun e w' => DigRes w (numL n s) e w' := by
  obtain ⟨i0, hi0, hzz⟩ := Option.map_eq_some_iff.1 Tryz.info5
  simp only [Prod.mk.injEq] at hzz
  obtain ⟨hi2, hi1, hi3⟩ := hzz
  have P := fun w => l1pow_any s w hs
  have hp := p10_pos s
  have hp6 := p10_le hs
  have d0 : 0 ≤ n / p10 s := Int.ediv_nonneg hn (by omega)
  have d1 : n / p10 s ≤ n := Int.ediv_le_self _ hn
  have m0 : 0 ≤ n % p10 s := Int.emod_nonneg _ (by omega)
  have m1 : n % p10 s < p10 s := Int.emod_lt_of_pos _ (by omega)
  have D1 := fun w => l1digits_int (n / p10 s) w d0 (by omega)
  have D2 := fun w => l1digits_int (n % p10 s) w m0 (by omega)
  have hL1 := digitsL_len 19 (n / p10 s).toNat (by omega)
  have hL2 := digitsL_len 6 (n % p10 s).toNat (by omega)
  have hq1 := digitsL_pos (n / p10 s).toNat
  have hq2 := digitsL_pos (n % p10 s).toNat
  unfold numL
  generalize digitsL (n / p10 s).toNat = d at *
  generalize digitsL (n % p10 s).toNat = f at *
  go_enter Tryz.func53, Tryz.ntmps53
  go_wp2_with fail
  refine (P _).mono ?_
  rintro e w1 ⟨rfl, rfl⟩
  go_wp2_with fail
  refine (D1 _).mono ?_
  rintro e w2 ⟨g2, cap2, rfl, hr2, hb2⟩
  have hsz : (w.alloc (.cells #[.int .i64 3, .slice a len cap, .int .i64 n, .int .i64 s] 52)).heap.size = w.heap.size + 1 := by simp
  rw [hsz] at hr2 hb2
  have HX : Hid (∀ wr, Below (w.heap.size + 1) (w.alloc (.cells #[.int .i64 3, .slice a len cap, .int .i64 n, .int .i64 s] 52)) wr → wr.cell? ⟨w.heap.size, 3, none⟩ = some (.int .i64 s)) := fun wr h => (h.cell (p := ⟨w.heap.size, 3, none⟩) (Nat.lt_succ_self _)).trans (by simp [go_sem])
  have HW : Hid (∀ wr, Below (w.heap.size + 1) (w.alloc (.cells #[.int .i64 3, .slice a len cap, .int .i64 n, .int .i64 s] 52)) wr → Below w.heap.size w wr) := fun wr h => (bl_a (w := w) (.cells #[.int .i64 3, .slice a len cap, .int .i64 n, .int .i64 s] 52)).trans (h.mono (Nat.le_succ _))
  have HN2 : Hid (∀ j u, (d.map (Value.int .u8))[j]? = some u → w2.cell? ((⟨g2, 0, none⟩ : Addr).add j) = some u) := hr2.news
  have HB2 : Hid (Below (w.heap.size + 1) (w.alloc (.cells #[.int .i64 3, .slice a len cap, .int .i64 n, .int .i64 s] 52)) w2) := hb2
  have hs2 : (w.heap.size + 1) ≤ w2.heap.size := by have := hb2.size; rwa [hsz] at this
  clear hr2 hb2 hsz D1
  by_cases hs0 : s = 0
  · go_wp2_with (refine wpList_append_lies _ rfl (.tmp 16) (.tmp 22) 27 rfl (w.heap.size + 1) 5 i0 (.int .u8 0) 1 1 Tryz.underlying27 hi0 hi2 hi1 hi3 rfl (by omega) (.slice none 0 0) 0 [] rfl (World.ownsRow_nil _ _ _ _) ⟨g2, 0, none⟩ d.length _ (d.map (Value.int .u8)) rfl (by simp) HN2.out (oneCell_map d) (by omega) (by unfold maxLen; omega) (by omega) hs2 _ rfl ?_; intro g3 cap3 w3 hown3 hgr3 hgg3 hlt3; have HR3' : Row8 w3 (w.heap.size + 1) g3 (0 + d.length) cap3 ([] ++ d) := Row8.grown (us := []) (bs := d) hown3 rfl hlt3; rw [Nat.zero_add, List.nil_append] at HR3'; have hb3 := HB2.out.trans (below_nil (B := (w.heap.size + 1)) hgr3 hs2); have HR3 : Hid (Row8 w3 (w.heap.size + 1) g3 d.length cap3 d) := HR3'; have HB3 : Hid (Below (w.heap.size + 1) (w.alloc (.cells #[.int .i64 3, .slice a len cap, .int .i64 n, .int .i64 s] 52)) w3) := hb3; have hx3 := HX.out w3 hb3; clear hown3 hgr3 hgg3 hb3 HR3')
    go_ret
    exact ⟨g3, cap3, rfl, HR3.out.mono (B' := w.heap.size) (Nat.le_succ _), HW.out _ HB3.out⟩
  · go_wp2_with (first | (refine wpList_append_lies _ rfl (.tmp 16) (.tmp 22) 27 rfl (w.heap.size + 1) 5 i0 (.int .u8 0) 1 1 Tryz.underlying27 hi0 hi2 hi1 hi3 rfl (by omega) (.slice none 0 0) 0 [] rfl (World.ownsRow_nil _ _ _ _) ⟨g2, 0, none⟩ d.length _ (d.map (Value.int .u8)) rfl (by simp) HN2.out (oneCell_map d) (by omega) (by unfold maxLen; omega) (by omega) hs2 _ rfl ?_; intro g3 cap3 w3 hown3 hgr3 hgg3 hlt3; have HR3' : Row8 w3 (w.heap.size + 1) g3 (0 + d.length) cap3 ([] ++ d) := Row8.grown (us := []) (bs := d) hown3 rfl hlt3; rw [Nat.zero_add, List.nil_append] at HR3'; have hb3 := HB2.out.trans (below_nil (B := (w.heap.size + 1)) hgr3 hs2); have HR3 : Hid (Row8 w3 (w.heap.size + 1) g3 d.length cap3 d) := HR3'; have HB3 : Hid (Below (w.heap.size + 1) (w.alloc (.cells #[.int .i64 3, .slice a len cap, .int .i64 n, .int .i64 s] 52)) w3) := hb3; have hx3 := HX.out w3 hb3; clear hown3 hgr3 hgg3 hb3 HR3'; have HR3a : Hid (Row8 (w3.alloc (.cells #[.int .u8 46] 5)) (w.heap.size + 1) g3 d.length cap3 d) := HR3.out.below (bl_a _); have HB3a : Hid (Below (w.heap.size + 1) (w.alloc (.cells #[.int .i64 3, .slice a len cap, .int .i64 n, .int .i64 s] 52)) (w3.alloc (.cells #[.int .u8 46] 5))) := HB3.out.alloc (Nat.le_trans (by simp) HB3.out.size) _; have hs3a : (w.heap.size + 1) ≤ (w3.alloc (.cells #[.int .u8 46] 5)).heap.size := Nat.le_trans (by simp) HB3a.out.size) | (refine wpList_append_lies _ rfl (.tmp 28) (.tmp 29) 27 rfl (w.heap.size + 1) 5 i0 (.int .u8 0) 1 1 Tryz.underlying27 hi0 hi2 hi1 hi3 rfl (by omega) (.slice (some ⟨g3, 0, none⟩) d.length cap3) d.length ((d).map (Value.int .u8)) rfl HR3a.out.1 ⟨w3.heap.size, 0, none⟩ 1 _ [.int .u8 46] rfl rfl (one_news w3 46) (by simp [Value.oneCell']) (by omega) (by unfold maxLen; omega) (by omega) hs3a _ rfl ?_; intro g4 cap4 w4 hown4 hgr4 hgg4 hlt4; have HR4' : Row8 w4 (w.heap.size + 1) g4 (d.length + 1) cap4 (d ++ [46]) := Row8.grown (us := d) (bs := [46]) hown4 rfl hlt4; have hb4 := HB3a.out.trans (grown_below (g := g3) hgr4 HR3.out.ge hs3a); have HR4 : Hid (Row8 w4 (w.heap.size + 1) g4 (d.length + 1) cap4 (d ++ [46])) := HR4'; have HB4 : Hid (Below (w.heap.size + 1) (w.alloc (.cells #[.int .i64 3, .slice a len cap, .int .i64 n, .int .i64 s] 52)) w4) := hb4; have hx4 := HX.out w4 hb4; clear hown4 hgr4 hgg4 hb4 HR4' HR3a HB3a hs3a))
    refine (P _).mono ?_
    rintro e w4 ⟨rfl, rfl⟩
    go_wp2_with fail
    refine (D2 _).mono ?_
    rintro e w5 ⟨g5, cap5, rfl, hr5, hb5⟩
    have hs4 : (w.heap.size + 1) ≤ w4.heap.size := Nat.le_trans (by simp) HB4.out.size
    have HR5 : Hid (Row8 w5 (w.heap.size + 1) g4 (d.length + 1) cap4 (d ++ [46])) := HR4.out.below hb5
    have HB5 : Hid (Below (w.heap.size + 1) (w.alloc (.cells #[.int .i64 3, .slice a len cap, .int .i64 n, .int .i64 s] 52)) w5) := HB4.out.trans (hb5.mono hs4)
    have HF5 : Hid (∀ j u, (f.map (Value.int .u8))[j]? = some u → w5.cell? ((⟨g5, 0, none⟩ : Addr).add j) = some u) := hr5.news
    have hg5 : g5 < w5.heap.size := hr5.2
    have hne5 : g4 ≠ g5 := by have := HR4.out.2; have := hr5.ge; omega
    have hx5 := HX.out w5 HB5.out
    clear hr5 hb5 HR4 HB4 HR3 HB3 HB2 HN2 D2 P
    go_wp2_with fail
    go_loopw [3, 6] (fun x i wr => ∃ (k gx nx cx : Nat), f.length ≤ k ∧ (k ≤ s ∨ k = f.length) ∧ i = .int .i64 k ∧ x = .slice (some ⟨gx, 0, none⟩) nx cx ∧ nx = d.length + 1 + (k - f.length) ∧ gx ≠ g5 ∧ g5 < wr.heap.size ∧ Hid (Row8 wr (w.heap.size + 1) gx nx cx (d ++ 46 :: List.replicate (k - f.length) 48)) ∧ Hid (Below (w.heap.size + 1) (w.alloc (.cells #[.int .i64 3, .slice a len cap, .int .i64 n, .int .i64 s] 52)) wr) ∧ Hid (∀ j u, (f.map (Value.int .u8))[j]? = some u → wr.cell? ((⟨g5, 0, none⟩ : Addr).add j) = some u))
      (fun _ i _ => s - (intOf i).toNat)
    case atStart => exact ⟨f.length, g4, d.length + 1, cap4, Nat.le_refl _, .inr rfl, rfl, rfl, by omega, hne5, hg5, by simpa using HR5, HB5, HF5⟩
    case round =>
      obtain ⟨k, gx, nx, cx, hk, hks, rfl, rfl, hnx, hne, hg, HR, HB, HF⟩ := hrel
      have hbox := HX.out wr HB.out
      have HNX : Hid (nx = d.length + 1 + (k - f.length)) := hnx
      have hnb : nx ≤ 40 := by omega
      clear hnx
      clear HR5 HB5 HF5 hg5 hne5 hx5
      by_cases hlt : k < s
      · have HR1 : Hid (Row8 (wr.alloc (.cells #[.int .u8 48] 5)) (w.heap.size + 1) gx nx cx (d ++ 46 :: List.replicate (k - f.length) 48)) := HR.out.below (bl_a _)
        have HB1 : Hid (Below (w.heap.size + 1) (w.alloc (.cells #[.int .i64 3, .slice a len cap, .int .i64 n, .int .i64 s] 52)) (wr.alloc (.cells #[.int .u8 48] 5))) := HB.out.alloc (Nat.le_trans (by simp) HB.out.size) _
        have hs1 : (w.heap.size + 1) ≤ (wr.alloc (.cells #[.int .u8 48] 5)).heap.size := Nat.le_trans (by simp) HB1.out.size
        have HF1 : Hid (∀ j u, (f.map (Value.int .u8))[j]? = some u → (wr.alloc (.cells #[.int .u8 48] 5)).cell? ((⟨g5, 0, none⟩ : Addr).add j) = some u) := news_alloc _ hg HF.out
        have hg1 : g5 < (wr.alloc (.cells #[.int .u8 48] 5)).heap.size := by simp; omega
        go_wp2_with (refine wpList_append_lies _ rfl (.tmp 45) (.tmp 46) 27 rfl (w.heap.size + 1) 5 i0 (.int .u8 0) 1 1 Tryz.underlying27 hi0 hi2 hi1 hi3 rfl (by omega) (.slice (some ⟨gx, 0, none⟩) nx cx) nx ((d ++ 46 :: List.replicate (k - f.length) 48).map (Value.int .u8)) rfl HR1.out.1 ⟨wr.heap.size, 0, none⟩ 1 _ [.int .u8 48] rfl rfl (one_news wr 48) (by simp [Value.oneCell']) (by omega) (by unfold maxLen; omega) (by omega) hs1 _ rfl ?_; intro g6 cap6 w6 hown6 hgr6 hgg6 hlt6; have HR6 : Hid (Row8 w6 (w.heap.size + 1) g6 (nx + 1) cap6 ((d ++ 46 :: List.replicate (k - f.length) 48) ++ [48])) := Row8.grown (us := d ++ 46 :: List.replicate (k - f.length) 48) (bs := [48]) hown6 rfl hlt6; have hb6 := HB1.out.trans (grown_below (g := gx) hgr6 HR.out.ge hs1); have HB6 : Hid (Below (w.heap.size + 1) (w.alloc (.cells #[.int .i64 3, .slice a len cap, .int .i64 n, .int .i64 s] 52)) w6) := hb6; have HF6 : Hid (∀ j u, (f.map (Value.int .u8))[j]? = some u → w6.cell? ((⟨g5, 0, none⟩ : Addr).add j) = some u) := news_grown (g := gx) hgr6 (Ne.symm hne) hg1 HF1.out; have hg6 : g5 < w6.heap.size := Nat.lt_of_lt_of_le hg1 hgr6.size; have hne6 : g6 ≠ g5 := far hgg6 hne hg1; clear hown6 hgr6 hgg6 hb6 hlt6)
        go_roundw
        case rel =>
          refine ⟨k + 1, g6, nx + 1, cap6, by omega, by omega, by go_num, rfl, by have := HNX.out; omega, hne6, hg6, ?_, HB6, HF6⟩
          have h := HR6.out
          show Row8 _ _ _ _ _ _
          have e : k + 1 - f.length = (k - f.length) + 1 := by omega
          rw [e, List.replicate_succ']
          simpa using h
        case measure => simp [intOf]; omega
      · have hs0' : (w.heap.size + 1) ≤ wr.heap.size := Nat.le_trans (by simp) HB.out.size
        go_wp2_with (refine wpList_append_lies _ rfl (.tmp 48) (.tmp 49) 27 rfl (w.heap.size + 1) 5 i0 (.int .u8 0) 1 1 Tryz.underlying27 hi0 hi2 hi1 hi3 rfl (by omega) (.slice (some ⟨gx, 0, none⟩) nx cx) nx ((d ++ 46 :: List.replicate (k - f.length) 48).map (Value.int .u8)) rfl HR.out.1 ⟨g5, 0, none⟩ f.length _ (f.map (Value.int .u8)) rfl (by simp) HF.out (oneCell_map f) (by omega) (by unfold maxLen; omega) (by omega) hs0' _ rfl ?_; intro g7 cap7 w7 hown7 hgr7 hgg7 hlt7; have HR7 : Hid (Row8 w7 (w.heap.size + 1) g7 (nx + f.length) cap7 ((d ++ 46 :: List.replicate (k - f.length) 48) ++ f)) := Row8.grown (us := d ++ 46 :: List.replicate (k - f.length) 48) (bs := f) hown7 rfl hlt7; have HB7 : Hid (Below (w.heap.size + 1) (w.alloc (.cells #[.int .i64 3, .slice a len cap, .int .i64 n, .int .i64 s] 52)) w7) := HB.out.trans (grown_below (g := gx) hgr7 HR.out.ge hs0'); clear hown7 hgr7 hgg7 hlt7)
        go_ret
        have e : k - f.length = s - f.length := by omega
        have h := HR7.out.mono (B' := w.heap.size) (Nat.le_succ _)
        rw [e] at h
        have el : (d ++ 46 :: (List.replicate (s - f.length) 48 ++ f) : List Int).length = nx + f.length := by have := HNX.out; simp; omega
        exact ⟨g7, cap7, by rw [el]; rfl, by rw [el]; simpa using h, HW.out _ HB7.out⟩
end Go.Proofs.YtganfiajhokkmaaGreatDoor

/- ShwG -/
namespace Go.Proofs.YtganfiajhokkmaaGreatDoor
open Go.RowKit Go.Deep
set_option maxRecDepth 100000

/-- append of bytes to a row of bytes of the call's own (or to none as yet): the row, and what is left of what was there. -/
theorem app8 {ops : Array Oper} {rest : List Oper} {o : Oper} {a : Act} {Q : Exit → Act → World → Prop} {w : World} (hgd : o.guard = none) (s x : Operand)
    (ho : o.op = .call { callee := .builtin .append, args := #[s, x], argTypes := #[27, 27] })
    (B : Nat) (v : Value) (n : Nat) (us : List Int) (hs : a.eval s = v) (HO : Hid (w.ownsRow B 5 1 v n (us.map (Value.int .u8))))
    (ad : Addr) (m c : Nat) (bs : List Int) (hx : a.eval x = .slice (some ad) m c) (hl : bs.length = m) (HN : Hid (∀ j u, (bs.map (Value.int .u8))[j]? = some u → w.cell? (ad.add j) = some u))
    (hm : 0 < m) (N : Nat) (hN : n + m = N) (zs : List Int) (hz : us ++ bs = zs) (hle : N ≤ 1000000000) (hB : B ≤ w.heap.size)
    (h : ∀ g cap w', Hid (Row8 w' B g N cap zs) → Hid (w.grownBy w' v.ownBlock) → Hid (v.ownBlock = some g ∨ g = w.heap.size) → Hid (Below B w w') → wpList Tryz.prog ops Q rest (a.put o.dst (.slice (some ⟨g, 0, none⟩) N cap)) w') :
    wpList Tryz.prog ops Q (o :: rest) a w := by
  obtain ⟨i0, hi0, hzz⟩ := Option.map_eq_some_iff.1 Tryz.info5
  simp only [Prod.mk.injEq] at hzz
  obtain ⟨hi2, hi1, hi3⟩ := hzz
  subst hN hz
  refine wpList_append_lies _ hgd s x 27 ho B 5 i0 (.int .u8 0) 1 1 Tryz.underlying27 hi0 hi2 hi1 hi3 rfl (by omega) v n (us.map (Value.int .u8)) hs HO.out ad m c (bs.map (Value.int .u8)) hx (by simp [hl]) HN.out (oneCell_map bs) hm (by unfold maxLen; omega) (by omega) hB _ rfl ?_
  intro g cap w' hown hgr hat hlt
  refine h g cap w' (Row8.grown hown rfl hlt) hgr hat ?_
  rcases HO.out.2 with ⟨hv, _⟩ | ⟨g0, c0, cur, hv, hb, _⟩
  · subst hv
    exact below_nil hgr hB
  · subst hv
    exact grown_below (g := g0) hgr hb hB

theorem Row8.own {w : World} {B g n cap : Nat} {bs : List Int} (h : Row8 w B g n cap bs) : Hid (w.ownsRow B 5 1 (.slice (some ⟨g, 0, none⟩) n cap) n (bs.map (Value.int .u8))) := h.1
theorem Row8.len {w : World} {B g n cap : Nat} {bs : List Int} (h : Row8 w B g n cap bs) : bs.length = n := by simpa using h.1.1
/-- Where a row that has grown lies: elsewhere than one that is not its own. -/
theorem away {v : Value} {g g' H : Nat} (h : v.ownBlock = some g ∨ g = H) (hv : v.ownBlock ≠ some g') (hl : g' < H) : g ≠ g' := by
  rcases h with h | h
  · intro e; subst e; exact hv h
  · omega
/-- A row's cells, at another row's growing. -/
theorem news_past {w w' : World} {v : Value} {g' : Nat} {vs : List Value} (h : w.grownBy w' v.ownBlock) (hne : v.ownBlock ≠ some g') (hl : g' < w.heap.size) (hc : ∀ j u, vs[j]? = some u → w.cell? ((⟨g', 0, none⟩ : Addr).add j) = some u) :
    ∀ j u, vs[j]? = some u → w'.cell? ((⟨g', 0, none⟩ : Addr).add j) = some u := by
  intro j u hj
  have hb : ((⟨g', 0, none⟩ : Addr).add j).block = g' := by
    by_cases h0 : j = 0 <;> simp [Addr.add, h0]
  rw [World.cell?_of_block (h.block _ (by rw [hb]; exact hl) (by rw [hb]; exact fun e => hne e.symm))]
  exact hc j u hj
theorem own_ne {g g' n c : Nat} (h : g ≠ g') : (Value.slice (some ⟨g, 0, none⟩) n c).ownBlock ≠ some g' := by simpa [Value.ownBlock] using h

set_option maxHeartbeats 2000000 in
theorem l1number_neg (n : Int) (s : Nat) (a : Option Addr) (len cap : Nat) (w : World) (hs : s ≤ 6) (hn : 0 < n) (hn' : n ≤ 9223372036854775807) :
    Calls Tryz.prog 53 #[.agg #[.int .i64 3, .slice a len cap, .int .i64 (-n), .int .i64 s]] w fun e w' => DigRes w (45 :: numL n s) e w' := by
  have hn0 : 0 ≤ n := by omega
  have P := fun w => l1pow_any s w hs
  have hp := p10_pos s
  have hp6 := p10_le hs
  have d0 : 0 ≤ n / p10 s := Int.ediv_nonneg hn0 (by omega)
  have d1 : n / p10 s ≤ n := Int.ediv_le_self _ hn0
  have m0 : 0 ≤ n % p10 s := Int.emod_nonneg _ (by omega)
  have m1 : n % p10 s < p10 s := Int.emod_lt_of_pos _ (by omega)
  have D1 := fun w => l1digits_int (n / p10 s) w d0 (by omega)
  have D2 := fun w => l1digits_int (n % p10 s) w m0 (by omega)
  have hL1 := digitsL_len 19 (n / p10 s).toNat (by omega)
  have hL2 := digitsL_len 6 (n % p10 s).toNat (by omega)
  have hq1 := digitsL_pos (n / p10 s).toNat
  have hq2 := digitsL_pos (n % p10 s).toNat
  unfold numL
  generalize digitsL (n / p10 s).toNat = d at *
  generalize digitsL (n % p10 s).toNat = f at *
  have HX : Hid (∀ wr, Below (w.heap.size + 1) (w.alloc (.cells #[.int .i64 3, .slice a len cap, .int .i64 (-n), .int .i64 s] 52)) wr → wr.cell? ⟨w.heap.size, 3, none⟩ = some (.int .i64 s)) := fun wr h => (h.cell (p := ⟨w.heap.size, 3, none⟩) (Nat.lt_succ_self _)).trans (by simp [go_sem])
  have HW : Hid (∀ wr, Below (w.heap.size + 1) (w.alloc (.cells #[.int .i64 3, .slice a len cap, .int .i64 (-n), .int .i64 s] 52)) wr → Below w.heap.size w wr) := fun wr h => (bl_a (w := w) (.cells #[.int .i64 3, .slice a len cap, .int .i64 (-n), .int .i64 s] 52)).trans (h.mono (Nat.le_succ _))
  have HSZ : Hid (∀ wr, Below (w.heap.size + 1) (w.alloc (.cells #[.int .i64 3, .slice a len cap, .int .i64 (-n), .int .i64 s] 52)) wr → (w.heap.size + 1) ≤ wr.heap.size) := fun wr h => Nat.le_trans (by simp) h.size
  have HB0 : Hid (Below (w.heap.size + 1) (w.alloc (.cells #[.int .i64 3, .slice a len cap, .int .i64 (-n), .int .i64 s] 52)) ((w.alloc (.cells #[.int .i64 3, .slice a len cap, .int .i64 (-n), .int .i64 s] 52)).alloc (.cells #[.int .u8 45] 5))) := (Below.refl _ _).alloc (by simp) _
  have hB0 := HSZ.out _ HB0.out
  have HO0 : Hid (((w.alloc (.cells #[.int .i64 3, .slice a len cap, .int .i64 (-n), .int .i64 s] 52)).alloc (.cells #[.int .u8 45] 5)).ownsRow (w.heap.size + 1) 5 1 (.slice none 0 0) 0 (([] : List Int).map (Value.int .u8))) := World.ownsRow_nil _ _ _ _
  have HN0 : Hid (∀ j u, (([45] : List Int).map (Value.int .u8))[j]? = some u → ((w.alloc (.cells #[.int .i64 3, .slice a len cap, .int .i64 (-n), .int .i64 s] 52)).alloc (.cells #[.int .u8 45] 5)).cell? ((⟨(w.heap.size + 1), 0, none⟩ : Addr).add j) = some u) := by
    have h := one_news (w.alloc (.cells #[.int .i64 3, .slice a len cap, .int .i64 (-n), .int .i64 s] 52)) 45
    rw [show ((w.alloc (.cells #[.int .i64 3, .slice a len cap, .int .i64 (-n), .int .i64 s] 52))).heap.size = (w.heap.size + 1) by simp] at h
    exact h
  go_enter Tryz.func53, Tryz.ntmps53
  go_wp2_with (refine app8 rfl (.tmp 11) (.tmp 12) rfl (w.heap.size + 1) (.slice none 0 0) 0 [] rfl HO0 ⟨(w.heap.size + 1), 0, none⟩ 1 1 [45] rfl rfl HN0 (by omega) 1 rfl [45] rfl (by omega) hB0 ?_; intro gA cA wA HRA _ _ HBA'; have HBA : Hid (Below (w.heap.size + 1) (w.alloc (.cells #[.int .i64 3, .slice a len cap, .int .i64 (-n), .int .i64 s] 52)) wA) := HB0.out.trans HBA'.out; have hxA := HX.out wA HBA.out; clear HBA' HO0 HN0 HB0 hB0)
  refine (P _).mono ?_
  rintro e w1 ⟨rfl, rfl⟩
  go_wp2_with fail
  refine (D1 _).mono ?_
  rintro e w2 ⟨g2, cap2, rfl, hr2, hb2⟩
  have HN2 : Hid (∀ j u, (d.map (Value.int .u8))[j]? = some u → w2.cell? ((⟨g2, 0, none⟩ : Addr).add j) = some u) := hr2.news
  have HO2 : Hid (w2.ownsRow (w.heap.size + 1) 5 1 (.slice (some ⟨gA, 0, none⟩) 1 cA) 1 (([45] : List Int).map (Value.int .u8))) := (HRA.out.below hb2).1
  have HB2 : Hid (Below (w.heap.size + 1) (w.alloc (.cells #[.int .i64 3, .slice a len cap, .int .i64 (-n), .int .i64 s] 52)) w2) := HBA.out.trans (hb2.mono (HSZ.out _ HBA.out))
  have hB2 := HSZ.out _ HB2.out
  clear hr2 hb2 D1 HRA HBA hxA
  by_cases hs0 : s = 0
  · go_wp2_with (refine app8 rfl (.tmp 16) (.tmp 22) rfl (w.heap.size + 1) (.slice (some ⟨gA, 0, none⟩) 1 cA) 1 [45] rfl HO2 ⟨g2, 0, none⟩ d.length _ d rfl rfl HN2 (by omega) (1 + d.length) rfl (45 :: d) rfl (by omega) hB2 ?_; intro g3 cap3 w3 HR3 _ _ HB3'; have HB3 : Hid (Below (w.heap.size + 1) (w.alloc (.cells #[.int .i64 3, .slice a len cap, .int .i64 (-n), .int .i64 s] 52)) w3) := HB2.out.trans HB3'.out; have hx3 := HX.out w3 HB3.out; clear HB3' HO2 HN2 HB2 hB2)
    go_ret
    have el : (45 :: d : List Int).length = 1 + d.length := by simp; omega
    exact ⟨g3, cap3, by rw [el]; rfl, by rw [el]; exact HR3.out.mono (B' := w.heap.size) (Nat.le_succ _), HW.out _ HB3.out⟩
  · go_wp2_with (first
      | (refine app8 rfl (.tmp 16) (.tmp 22) rfl (w.heap.size + 1) (.slice (some ⟨gA, 0, none⟩) 1 cA) 1 [45] rfl HO2 ⟨g2, 0, none⟩ d.length _ d rfl rfl HN2 (by omega) (1 + d.length) rfl (45 :: d) rfl (by omega) hB2 ?_; intro g3 cap3 w3 HR3 _ _ HB3'; have HB3 : Hid (Below (w.heap.size + 1) (w.alloc (.cells #[.int .i64 3, .slice a len cap, .int .i64 (-n), .int .i64 s] 52)) w3) := HB2.out.trans HB3'.out; have hx3 := HX.out w3 HB3.out; have HO3 := (HR3.out.below (bl_a (.cells #[.int .u8 46] 5))).own; have HB3a : Hid (Below (w.heap.size + 1) (w.alloc (.cells #[.int .i64 3, .slice a len cap, .int .i64 (-n), .int .i64 s] 52)) (w3.alloc (.cells #[.int .u8 46] 5))) := HB3.out.alloc (HSZ.out _ HB3.out) _; have hB3a := HSZ.out _ HB3a.out; have HN3 : Hid (∀ j u, (([46] : List Int).map (Value.int .u8))[j]? = some u → (w3.alloc (.cells #[.int .u8 46] 5)).cell? ((⟨w3.heap.size, 0, none⟩ : Addr).add j) = some u) := one_news w3 46; clear HB3' HO2 HN2 HB2 hB2)
      | (refine app8 rfl (.tmp 28) (.tmp 29) rfl (w.heap.size + 1) (.slice (some ⟨g3, 0, none⟩) (1 + d.length) cap3) (1 + d.length) (45 :: d) rfl HO3 ⟨w3.heap.size, 0, none⟩ 1 1 [46] rfl rfl HN3 (by omega) (1 + d.length + 1) rfl (45 :: d ++ [46]) rfl (by omega) hB3a ?_; intro g4 cap4 w4 HR4 _ _ HB4'; have HB4 : Hid (Below (w.heap.size + 1) (w.alloc (.cells #[.int .i64 3, .slice a len cap, .int .i64 (-n), .int .i64 s] 52)) w4) := HB3a.out.trans HB4'.out; have hx4 := HX.out w4 HB4.out; clear HB4' HO3 HB3a hB3a HN3 HB3 HR3 hx3))
    refine (P _).mono ?_
    rintro e w4' ⟨rfl, rfl⟩
    go_wp2_with fail
    refine (D2 _).mono ?_
    rintro e w5 ⟨g5, cap5, rfl, hr5, hb5⟩
    have HR5 : Hid (Row8 w5 (w.heap.size + 1) g4 (1 + d.length + 1) cap4 (45 :: d ++ [46])) := HR4.out.below hb5
    have HB5 : Hid (Below (w.heap.size + 1) (w.alloc (.cells #[.int .i64 3, .slice a len cap, .int .i64 (-n), .int .i64 s] 52)) w5) := HB4.out.trans (hb5.mono (HSZ.out _ HB4.out))
    have HF5 : Hid (∀ j u, (f.map (Value.int .u8))[j]? = some u → w5.cell? ((⟨g5, 0, none⟩ : Addr).add j) = some u) := hr5.news
    have hg5 : g5 < w5.heap.size := hr5.2
    have hne5 : g4 ≠ g5 := by have := HR4.out.2; have := hr5.ge; omega
    have hx5 := HX.out w5 HB5.out
    clear hr5 hb5 HR4 HB4 D2 P hx4
    go_wp2_with fail
    go_loopw [3, 6] (fun x i wr => ∃ (k gx nx cx : Nat), f.length ≤ k ∧ (k ≤ s ∨ k = f.length) ∧ i = .int .i64 k ∧ x = .slice (some ⟨gx, 0, none⟩) nx cx ∧ nx = 1 + d.length + 1 + (k - f.length) ∧ gx ≠ g5 ∧ g5 < wr.heap.size ∧ Hid (Row8 wr (w.heap.size + 1) gx nx cx (45 :: (d ++ 46 :: List.replicate (k - f.length) 48))) ∧ Hid (Below (w.heap.size + 1) (w.alloc (.cells #[.int .i64 3, .slice a len cap, .int .i64 (-n), .int .i64 s] 52)) wr) ∧ Hid (∀ j u, (f.map (Value.int .u8))[j]? = some u → wr.cell? ((⟨g5, 0, none⟩ : Addr).add j) = some u))
      (fun _ i _ => s - (intOf i).toNat)
    case atStart => exact ⟨f.length, g4, 1 + d.length + 1, cap4, Nat.le_refl _, .inr rfl, rfl, rfl, by omega, hne5, hg5, by simpa using HR5, HB5, HF5⟩
    case round =>
      obtain ⟨k, gx, nx, cx, hk, hks, rfl, rfl, hnx, hne, hg, HR, HB, HF⟩ := hrel
      have hbox := HX.out wr HB.out
      have HNX : Hid (nx = 1 + d.length + 1 + (k - f.length)) := hnx
      have hnb : nx ≤ 40 := by omega
      have hov := own_ne (n := nx) (c := cx) hne
      clear hnx HR5 HB5 HF5 hg5 hne5 hx5
      by_cases hlt : k < s
      · have HO1 := (HR.out.below (bl_a (.cells #[.int .u8 48] 5))).own
        have HB1 : Hid (Below (w.heap.size + 1) (w.alloc (.cells #[.int .i64 3, .slice a len cap, .int .i64 (-n), .int .i64 s] 52)) (wr.alloc (.cells #[.int .u8 48] 5))) := HB.out.alloc (HSZ.out _ HB.out) _
        have hB1 := HSZ.out _ HB1.out
        have HN1 : Hid (∀ j u, (([48] : List Int).map (Value.int .u8))[j]? = some u → (wr.alloc (.cells #[.int .u8 48] 5)).cell? ((⟨wr.heap.size, 0, none⟩ : Addr).add j) = some u) := one_news wr 48
        have HF1 : Hid (∀ j u, (f.map (Value.int .u8))[j]? = some u → (wr.alloc (.cells #[.int .u8 48] 5)).cell? ((⟨g5, 0, none⟩ : Addr).add j) = some u) := news_alloc _ hg HF.out
        have hg1 : g5 < (wr.alloc (.cells #[.int .u8 48] 5)).heap.size := by simp; omega
        go_wp2_with (refine app8 rfl (.tmp 45) (.tmp 46) rfl (w.heap.size + 1) (.slice (some ⟨gx, 0, none⟩) nx cx) nx (45 :: (d ++ 46 :: List.replicate (k - f.length) 48)) rfl HO1 ⟨wr.heap.size, 0, none⟩ 1 1 [48] rfl rfl HN1 (by omega) (nx + 1) rfl ((45 :: (d ++ 46 :: List.replicate (k - f.length) 48)) ++ [48]) rfl (by omega) hB1 ?_; intro g6 cap6 w6 HR6 hgr6 hat6 HB6'; have HB6 : Hid (Below (w.heap.size + 1) (w.alloc (.cells #[.int .i64 3, .slice a len cap, .int .i64 (-n), .int .i64 s] 52)) w6) := HB1.out.trans HB6'.out; have HF6 : Hid (∀ j u, (f.map (Value.int .u8))[j]? = some u → w6.cell? ((⟨g5, 0, none⟩ : Addr).add j) = some u) := news_past hgr6.out hov hg1 HF1.out; have hg6 : g5 < w6.heap.size := Nat.lt_of_lt_of_le hg1 hgr6.out.size; have hne6 : g6 ≠ g5 := away hat6.out hov hg1; clear hgr6 hat6 HB6')
        go_roundw
        case rel =>
          refine ⟨k + 1, g6, nx + 1, cap6, by omega, by omega, by go_num, rfl, by have := HNX.out; omega, hne6, hg6, ?_, HB6, HF6⟩
          have h := HR6.out
          show Row8 _ _ _ _ _ _
          have e : k + 1 - f.length = (k - f.length) + 1 := by omega
          rw [e, List.replicate_succ']
          simpa using h
        case measure => simp [intOf]; omega
      · have HO1 := HR.out.own
        have hB1 := HSZ.out _ HB.out
        go_wp2_with (refine app8 rfl (.tmp 48) (.tmp 49) rfl (w.heap.size + 1) (.slice (some ⟨gx, 0, none⟩) nx cx) nx (45 :: (d ++ 46 :: List.replicate (k - f.length) 48)) rfl HO1 ⟨g5, 0, none⟩ f.length _ f rfl rfl HF (by omega) (nx + f.length) rfl ((45 :: (d ++ 46 :: List.replicate (k - f.length) 48)) ++ f) rfl (by omega) hB1 ?_; intro g7 cap7 w7 HR7 _ _ HB7'; have HB7 : Hid (Below (w.heap.size + 1) (w.alloc (.cells #[.int .i64 3, .slice a len cap, .int .i64 (-n), .int .i64 s] 52)) w7) := HB.out.trans HB7'.out; clear HB7')
        go_ret
        have e : k - f.length = s - f.length := by omega
        have h := HR7.out.mono (B' := w.heap.size) (Nat.le_succ _)
        rw [e] at h
        have el : (45 :: (d ++ 46 :: (List.replicate (s - f.length) 48 ++ f)) : List Int).length = nx + f.length := by have := HNX.out; simp; omega
        exact ⟨g7, cap7, by rw [el]; rfl, by rw [el]; simpa using h, HW.out _ HB7.out⟩
end Go.Proofs.YtganfiajhokkmaaGreatDoor
