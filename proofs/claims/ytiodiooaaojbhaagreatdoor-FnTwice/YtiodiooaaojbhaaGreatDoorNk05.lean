/- Texts put together: ReS -/
import Derived.Test.YtiodiooaaojbhaaGreatDoorNk04
/- ReS -/
namespace Go.Proofs.YtiodiooaaojbhaaGreatDoor
open Go.RowKit Go.Deep
set_option maxRecDepth 100000

theorem Tz.new0 (w : World) : Tz (w.alloc (.cells #[] 5)) w.heap.size (some ⟨w.heap.size, 0, none⟩) 0 0 [] :=
  ⟨⟨rfl, by omega, by simp, .inl rfl⟩, .inr ⟨_, rfl, Nat.le_refl _, by simp, Nat.le_refl _, fun j hj => by omega⟩⟩
theorem Tz.take {w : World} {B g n cap : Nat} {us : List Int} (h : Tz w B (some ⟨g, 0, none⟩) n cap us) {i : Nat} (hi : i ≤ n) : Tz w B (some ⟨g, 0, none⟩) i cap (us.take i) := by
  obtain ⟨⟨h1, h2, h3, h4⟩, h5⟩ := h
  refine ⟨⟨by rw [List.length_take]; omega, by omega, fun j => ?_, ?_⟩, ?_⟩
  · rw [List.getElem?_take]
    split
    · exact h3 j
    · simp
  · rcases h4 with h4 | ⟨b, off, e, hl, hc⟩
    · left; omega
    · refine .inr ⟨b, off, e, hl, fun j hj => ?_⟩
      rw [hc j (by omega), List.getElem?_take, if_pos hj]
  · rcases h5 with ⟨e, _⟩ | ⟨g', e, hB, hg, hl, hc⟩
    · cases e
    · exact .inr ⟨g', e, hB, hg, by omega, hc⟩
theorem Bs.dropAt {w : World} {g n : Nat} {us : List Int} (h : Bs w (some ⟨g, 0, none⟩) n us) (i : Nat) (hi : i ≤ n) : Bs w (some ⟨g, i, none⟩) (n - i) (us.drop i) := by
  obtain ⟨h1, h2, h3, h4⟩ := h
  refine ⟨by rw [List.length_drop]; omega, by omega, fun j => ?_, ?_⟩
  · rw [List.getElem?_drop]
    exact h3 _
  · rcases h4 with h4 | ⟨b, off, e, hl, hc⟩
    · left; omega
    · cases e
      refine .inr ⟨g, i, rfl, hl, fun j hj => ?_⟩
      have := hc (i + j) (by omega)
      rw [Nat.zero_add] at this
      rw [this, List.getElem?_drop]
theorem Tz.set {w : World} {B g n cap : Nat} {us : List Int} (h : Tz w B (some ⟨g, 0, none⟩) n cap us) {i : Nat} (hi : i < n) (v : Int) (hv : 0 ≤ v ∧ v ≤ 255) : Tz (w.setCell ⟨g, i, none⟩ (.int .u8 v)) B (some ⟨g, 0, none⟩) n cap (us.set i v) := by
  obtain ⟨⟨h1, h2, h3, h4⟩, h5⟩ := h
  rcases h5 with ⟨e, _⟩ | ⟨g', e, hB, hg, hl, hc⟩
  · cases e
  cases e
  have hs : (w.cell? ⟨g, i, none⟩).isSome = true := (hc i (by omega)).1
  obtain ⟨x, hx⟩ := Option.isSome_iff_exists.1 hs
  have same : (w.setCell ⟨g, i, none⟩ (.int .u8 v)).cell? ⟨g, i, none⟩ = some (.int .u8 v) := set_same hx
  have other : ∀ j, j ≠ i → (w.setCell ⟨g, i, none⟩ (.int .u8 v)).cell? ⟨g, j, none⟩ = w.cell? ⟨g, j, none⟩ := fun j hj => World.cell?_setCell_other _ _ _ _ (by intro h; simp only [Addr.mk.injEq] at h; omega)
  refine ⟨⟨by rw [List.length_set]; exact h1, h2, fun j => ?_, ?_⟩, .inr ⟨g, rfl, hB, by simpa using hg, hl, fun j hj => ⟨?_, ?_⟩⟩⟩
  · rw [List.getElem?_set]
    split
    · split
      · exact hv
      · simp
    · exact h3 j
  · right
    rcases h4 with h4 | ⟨b, off, e, hl, hc'⟩
    · omega
    cases e
    refine ⟨g, 0, rfl, by simpa using hl, fun j hj => ?_⟩
    rw [Nat.zero_add]
    by_cases hji : j = i
    · subst hji
      rw [same, List.getElem?_set]
      simp [h1, hj]
    · rw [other j hji, List.getElem?_set, if_neg (Ne.symm hji)]
      have := hc' j hj
      rwa [Nat.zero_add] at this
  · by_cases hji : j = i
    · subst hji
      rw [same]
      rfl
    · rw [other j hji]
      exact (hc j hj).1
  · rw [World.frozen?_setCell]
    exact (hc j hj).2
theorem Past.onto {g : Nat} {w W W' : World} (h : Past g w W) (hb : Below w.heap.size W W') : Past g w W' :=
  ⟨hb.os.trans h.os, hb.tape.trans h.tape, hb.output.trans h.output, Nat.le_trans h.size hb.size, fun b hb' hn => (hb.block b hb').trans (h.block b hb' hn)⟩
theorem Cur.onto {w W W' : World} {g : Nat} {a : Option Addr} {len cap : Nat} (h : Cur w g a len cap) (h3 : Cur W g a len cap) (hp : Past g w W) (hb : Below w.heap.size W W') : Cur W' g a len cap := h.glue h3 (hp.onto hb) (hb.block g h.lt)
theorem byt_of_bs {w : World} {a : Option Addr} {n : Nat} {us : List Int} (h : Bs w a n us) : Byt us := Byt.of h.2.2.1
theorem Byt.takeB {l : List Int} (h : Byt l) (i : Nat) : Byt (l.take i) := fun x hx => h x (List.mem_of_mem_take hx)
theorem Byt.dropB {l : List Int} (h : Byt l) (i : Nat) : Byt (l.drop i) := fun x hx => h x (List.mem_of_mem_drop hx)
theorem Tz.byteAt {w : World} {B g n cap : Nat} {us : List Int} (h : Tz w B (some ⟨g, 0, none⟩) n cap us) {i : Nat} (hi : i < n) : ∃ v, w.cell? ⟨g, i, none⟩ = some (.int .u8 v) ∧ us[i]? = some v ∧ 0 ≤ v ∧ v ≤ 255 ∧ w.frozen? ⟨g, i, none⟩ = false := by
  obtain ⟨⟨h1, h2, h3, h4⟩, h5⟩ := h
  rcases h5 with ⟨e, _⟩ | ⟨g', e, hB, hg, hl, hc⟩
  · cases e
  cases e
  rcases h4 with h4 | ⟨b, off, e, hl', hc'⟩
  · omega
  cases e
  have hx := hc' i hi
  have hu : us[i]? = some (us[i]'(by omega)) := List.getElem?_eq_getElem (by omega)
  have h3 := h3 i
  rw [hu] at hx h3
  rw [Nat.zero_add] at hx
  exact ⟨_, hx, hu, h3.1, h3.2, (hc i (by omega)).2⟩
theorem Tz.at {w : World} {B g n cap : Nat} {us : List Int} (h : Tz w B (some ⟨g, 0, none⟩) n cap us) {i : Nat} (hi : i < n) : ∃ v, w.cell? ⟨g, i, none⟩ = some v ∧ w.frozen? ⟨g, i, none⟩ = false := by
  obtain ⟨v, h1, _, _, _, h2⟩ := h.byteAt hi
  exact ⟨_, h1, h2⟩
theorem spoil_set {g : Nat} {a : Option Addr} {len cap : Nat} {w W : World} {g1 n cap1 : Nat} {us : List Int} (hg : g < w.heap.size) (hC : Cur w g a len cap) (hW : Cur W g a len cap) (hP : Past g w W) (hT : Tz W w.heap.size (some ⟨g1, 0, none⟩) n cap1 us) {i : Nat} (hi : i < n) (v : Int) (hv : 0 ≤ v ∧ v ≤ 255) :
    SpoilRes g a len cap n w (.returned (.slice (some ⟨g1, 0, none⟩) n cap1)) (W.setCell ⟨g1, i, none⟩ (.int .u8 v)) := by
  have hl : (us.set i v).length = n := by rw [List.length_set]; exact hT.1.1
  have hg1 : w.heap.size ≤ g1 := by
    rcases hT.2 with ⟨e, _⟩ | ⟨g', e, h1, _⟩
    · cases e
    · cases e
      exact h1
  have hP' : Past g w (W.setCell ⟨g1, i, none⟩ (.int .u8 v)) := hP.set_new (p := ⟨g1, i, none⟩) hg1 _
  exact ⟨_, cap1, us.set i v, by rw [hl], by omega, by rw [hl]; exact hT.set hi v hv, hP', hC.glue hW hP' (Below.heap_setCell _ _ _ _ (by show g ≠ g1; omega))⟩
theorem numsOf_byt (s : ByteArray) : Byt (numsOf s) := fun x hx => by
  unfold numsOf at hx
  obtain ⟨b, _, rfl⟩ := List.mem_map.1 hx
  have := b.toNat_lt
  omega
theorem drop_if {w : World} {g n cap1 : Nat} {us : List Int} (h : Bs w (some ⟨g, 0, none⟩) n us) {k : Nat} (hk : k ≤ n) (hn : n ≤ cap1) : Bs w (if cap1 = k then some ⟨g, 0, none⟩ else some ⟨g, k, none⟩) (n - k) (us.drop k) := by
  split
  · have e : n - k = 0 := by omega
    have e2 : us.drop k = [] := List.drop_eq_nil_of_le (by rw [h.1]; omega)
    rw [e, e2]
    exact ⟨rfl, by omega, by simp, .inl rfl⟩
  · exact h.dropAt k hk
theorem xor_byte (x y : Int) : 0 ≤ bits BinOp.xor IntKind.u8 x y ∧ bits BinOp.xor IntKind.u8 x y ≤ 255 := by
  have h : ∃ n : Int, bits BinOp.xor IntKind.u8 x y = IntKind.u8.wrap n := ⟨_, rfl⟩
  obtain ⟨n, e⟩ := h
  rw [e, IntKind.wrap_u8]
  omega
theorem words10 (w : World) (s : Fin 10 → ByteArray) (T : TypeId) (x : Nat) (hx : x < 10) (h : ∀ i, (s i).size ≤ 4) : ∃ t : ByteArray, t.size ≤ 4 ∧ (w.alloc (.cells #[.string (s 0), .string (s 1), .string (s 2), .string (s 3), .string (s 4), .string (s 5), .string (s 6), .string (s 7), .string (s 8), .string (s 9)] T)).cell? ⟨w.heap.size, x, none⟩ = some (.string t) := by
  refine ⟨s ⟨x, hx⟩, h _, ?_⟩
  rcases (by omega : x = 0 ∨ x = 1 ∨ x = 2 ∨ x = 3 ∨ x = 4 ∨ x = 5 ∨ x = 6 ∨ x = 7 ∨ x = 8 ∨ x = 9) with rfl | rfl | rfl | rfl | rfl | rfl | rfl | rfl | rfl | rfl <;> simp [go_sem] <;> rfl

set_option maxHeartbeats 8000000 in
theorem l2spoil_any (g : Nat) (a : Option Addr) (len cap : Nat) (ab : Option Addr) (n cb : Nat) (us : List Int) (w : World) (hlen : len ≤ 9223372036854775807) (hC : Cur w g a len cap) (hB : Bs w ab n us) (hn : n ≤ 100000) :
    Calls Tryz.prog 31 #[.pointer (some ⟨g, 0, none⟩), .slice ab n cb] w (SpoilRes g a len cap n w) := by
  have BL := fun w (n : Nat) (h : Cur w g a len cap) (h1 : 1 ≤ n) (h2 : n ≤ 1000000) => l1Below_all g a len cap n w hlen h h1 h2
  have BY := fun w (h : Cur w g a len cap) => l1Byte_any g a len cap w hlen h
  have hgl := hC.lt
  have HC : Hid (Cur w g a len cap) := hC
  have HT0 : Hid (Tz (w.alloc (.cells #[] 5)) w.heap.size (some ⟨w.heap.size, 0, none⟩) 0 0 []) := Tz.new0 w
  have HS0 : Hid (Src Tryz.prog 1 22 (.slice ab n cb) n (us.map (Value.int .u8)) (w.alloc (.cells #[] 5))) := src_bs (hB.below (bl_a _))
  have HY0 : Hid (Byt ([] ++ us)) := by
    rw [List.nil_append]
    exact byt_of_bs hB
  have hB0 : w.heap.size ≤ (w.alloc (.cells #[] 5)).heap.size := by simp
  clear hC hB
  by_cases hn0 : n = 0
  · have hnz : ((n : Int) == 0) = true := by simp; omega
    clear hn0
    go_enter Tryz.func31, Tryz.ntmps31
    go_wp2_with (refine list_app8z rfl (.tmp 8) (.tmp 9) 22 rfl w.heap.size 0 0 (some ⟨w.heap.size, 0, none⟩) [] rfl HT0 (.slice ab n cb) n us rfl (fun h => by cases h) HS0 HY0 n (Nat.zero_add n) us rfl (by omega) hB0 ?_; intro g1 cap1 w1 HT1 HD1)
    have HB1 : Hid (Below w.heap.size w w1) := (bl_a (w := w) _).trans HD1.out
    have HC1 : Hid (Cur w1 g a len cap) := HC.out.below HB1.out
    have hs1 := HB1.out.size
    have hg1 : w.heap.size ≤ g1 ∧ g1 < w1.heap.size ∧ n ≤ cap1 := by
      rcases HT1.out.2 with ⟨e, _⟩ | ⟨g', e, h1, h2, h3, _⟩
      · cases e
      · cases e
        exact ⟨h1, h2, h3⟩
    obtain ⟨hg1a, hg1b, hg1c⟩ := hg1
    have HY : Hid (Byt us) := byt_of_bs HT1.out.1
    have HUL : Hid (us.length = n) := HT1.out.1.1
    clear HT0 HS0 HY0 hB0 HD1
    refine (BY _ HC1.out).mono ?_
    rintro e w2 ⟨x, rfl, x0, x1, hP2, hC2⟩
    have hwx : IntKind.u8.wrap x = x := by rw [IntKind.wrap_u8]; omega
    have HT2 : Hid (Tz (w2.alloc (.cells #[.int .u8 x] 5)) w.heap.size (some ⟨g1, 0, none⟩) n cap1 us) := (HT1.out.past hP2 hgl).below (bl_a _)
    have HS2 : Hid (Src Tryz.prog 1 22 (.slice (some ⟨w2.heap.size, 0, none⟩) 1 1) 1 (([x] : List Int).map (Value.int .u8)) (w2.alloc (.cells #[.int .u8 x] 5))) := src_bs ⟨rfl, by omega, fun i => by cases i <;> simp <;> omega, .inr ⟨_, 0, rfl, by simp, fun i hi => by
      obtain rfl : i = 0 := by omega
      simp [go_sem]⟩⟩
    have HY2 : Hid (Byt (us ++ [x])) := HY.out.app (Byt.cons (by omega) Byt.nil)
    have hs2 := hP2.size
    have hB2 : w.heap.size ≤ (w2.alloc (.cells #[.int .u8 x] 5)).heap.size := by simp; omega
    have HP2 : Hid (Past g w (w2.alloc (.cells #[.int .u8 x] 5))) := ((Past.of_below HB1.out).trans hP2).trans (Past.of_below (bl_a _))
    have HC2 : Hid (Cur (w2.alloc (.cells #[.int .u8 x] 5)) g a len cap) := hC2.below (bl_a _)
    clear hP2 hC2 HT1 HC1 HB1
    go_wp2_with (refine list_app8z rfl (.tmp 14) (.tmp 18) 22 rfl w.heap.size n cap1 (some ⟨g1, 0, none⟩) us rfl HT2 (.slice (some ⟨w2.heap.size, 0, none⟩) 1 1) 1 [x] rfl (fun h => by cases h) HS2 HY2 (n + 1) rfl (us ++ [x]) rfl (by omega) hB2 ?_; intro g3 cap3 w3 HT3 HD3)
    go_ret
    have hl : (us ++ [x]).length = n + 1 := by
      have := HUL.out
      rw [List.length_append, this]
      rfl
    have hD3 : Below w.heap.size (w2.alloc (.cells #[.int .u8 x] 5)) w3 := HD3.out
    refine ⟨some ⟨g3, 0, none⟩, cap3, us ++ [x], by rw [hl]; rfl, by omega, by rw [hl]; exact HT3.out, HP2.out.onto hD3, HC.out.onto HC2.out HP2.out hD3⟩
  · have hnz : ((n : Int) == 0) = false := by simp; omega
    go_enter Tryz.func31, Tryz.ntmps31
    go_wp2_with (refine list_app8z rfl (.tmp 8) (.tmp 9) 22 rfl w.heap.size 0 0 (some ⟨w.heap.size, 0, none⟩) [] rfl HT0 (.slice ab n cb) n us rfl (fun h => by cases h) HS0 HY0 n (Nat.zero_add n) us rfl (by omega) hB0 ?_; intro g1 cap1 w1 HT1 HD1)
    have HB1 : Hid (Below w.heap.size w w1) := (bl_a (w := w) _).trans HD1.out
    have HC1 : Hid (Cur w1 g a len cap) := HC.out.below HB1.out
    have hs1 := HB1.out.size
    have hg1 : w.heap.size ≤ g1 ∧ g1 < w1.heap.size ∧ n ≤ cap1 := by
      rcases HT1.out.2 with ⟨e, _⟩ | ⟨g', e, h1, h2, h3, _⟩
      · cases e
      · cases e
        exact ⟨h1, h2, h3⟩
    obtain ⟨hg1a, hg1b, hg1c⟩ := hg1
    have HY : Hid (Byt us) := byt_of_bs HT1.out.1
    have HUL : Hid (us.length = n) := HT1.out.1.1
    clear HT0 HS0 HY0 hB0 HD1
    refine (BL _ n HC1.out (by omega) (by omega)).mono ?_
    rintro e w2 ⟨i, rfl, hi, hP2, hC2⟩
    have HT2 : Hid (Tz w2 w.heap.size (some ⟨g1, 0, none⟩) n cap1 us) := HT1.out.past hP2 hgl
    have HP2 : Hid (Past g w w2) := (Past.of_below HB1.out).trans hP2
    have HC2 : Hid (Cur w2 g a len cap) := hC2
    have hs2 := hP2.size
    clear hP2 hC2 HT1 HC1 HB1
    go_wp2_with fail
    refine (BL _ 5 HC2.out (by omega) (by omega)).mono ?_
    rintro e w3 ⟨x, rfl, hx, hP3, hC3⟩
    have HT3 : Hid (Tz w3 w.heap.size (some ⟨g1, 0, none⟩) n cap1 us) := HT2.out.past hP3 hgl
    have HP3 : Hid (Past g w w3) := HP2.out.trans hP3
    have HC3 : Hid (Cur w3 g a len cap) := hC3
    have hs3 := hP3.size
    have hiz : (i : Int) < (n : Int) := by omega
    have hicn : i ≤ cap1 := by omega
    have hinn : i ≤ n := by omega
    have hcne : ¬ cap1 = i := by omega
    have hicz : (i : Int) < (cap1 : Int) := by omega
    have hncz : (n : Int) ≤ (cap1 : Int) := by omega
    clear hP3 hC3 HT2 HP2 HC2
    rcases (by omega : x = 0 ∨ x = 1 ∨ x = 2 ∨ x = 3 ∨ x = 4) with rfl | rfl | rfl | rfl | rfl
    · clear BL BY
      go_wp2
      go_ret
      have hl : (us.take i).length = i := by
        have := HUL.out
        rw [List.length_take]
        omega
      exact ⟨some ⟨g1, 0, none⟩, cap1, us.take i, by rw [hl]; rfl, by omega, by rw [hl]; exact HT3.out.take (by omega), HP3.out, HC3.out⟩
    · go_wp2_with fail
      refine (BL _ 10 (HC3.out.below (bl_a _)) (by omega) (by omega)).mono ?_
      rintro e w4 ⟨y, rfl, hy, hP4, hC4⟩
      obtain ⟨ws, hws, hcw⟩ := words10 w3 (fun k => (#[⟨#[32, 46, 32]⟩, ⟨#[34]⟩, ⟨#[60, 97, 62]⟩, ⟨#[95, 58]⟩, ⟨#[95, 58, 48, 49]⟩, ⟨#[45]⟩, ⟨#[49, 46, 53, 48]⟩, ⟨#[63, 120]⟩, ⟨#[32]⟩, ⟨#[92]⟩] : Array ByteArray)[k]) 9 y hy (by decide)
      have hcs : w4.cell? ⟨w3.heap.size, y, none⟩ = some (.string ws) := (hP4.cell (p := ⟨w3.heap.size, y, none⟩) (by simp) (by show w3.heap.size ≠ g; omega)).trans hcw
      have hPA : Past g w3 w4 := (Past.of_below (bl_a _)).trans hP4
      have HT4 : Hid (Tz w4 w.heap.size (some ⟨g1, 0, none⟩) n cap1 us) := HT3.out.past hPA hgl
      have HP4 : Hid (Past g w w4) := HP3.out.trans hPA
      have HC4 : Hid (Cur w4 g a len cap) := hC4
      have hs4 := hPA.size
      clear hP4 hC4 hPA HT3 HP3 HC3 hcw BL BY
      go_wp2_with fail
      refine wp_region_held_drew (S := fun w' => Below w4.heap.size w4 w') (by kernel_rfl) ?_ (fun hHeld => ?_)
      · exact Below.drew (Below.refl _ _)
      refine take_at (i := 1) 50 (v := ?v1) rfl rfl (by kernel_rfl) (by kernel_rfl) (by kernel_rfl) (fun _ _ _ h => h) (Or.inl ⟨by rfl, ?y1⟩) hHeld ?r1
      case y1 => (intro w' hSw; skip; go_simp; (try with_reducible rfl))
      try simp only [Act.put, List.setIfInBounds_toArray, List.set_cons_zero, List.set_cons_succ]
      refine take_at (i := 2) 51 (v := ?v2) rfl rfl (by kernel_rfl) (by kernel_rfl) (by kernel_rfl) (fun _ _ _ h => h) (Or.inl ⟨by rfl, ?y2⟩) hHeld ?r2
      case y2 => (intro w' hSw; skip; go_simp; (try with_reducible rfl))
      try simp only [Act.put, List.setIfInBounds_toArray, List.set_cons_zero, List.set_cons_succ]
      refine take_at (i := 3) 52 (v := ?v3) rfl rfl (by kernel_rfl) (by kernel_rfl) (by kernel_rfl) (fun _ _ _ h => h) (Or.inl ⟨by rfl, ?y3⟩) hHeld ?r3
      case y3 => (intro w' hSw; skip; go_simp; (try with_reducible rfl))
      try simp only [Act.put, List.setIfInBounds_toArray, List.set_cons_zero, List.set_cons_succ]
      refine take_at (i := 5) 54 (v := ?v4) rfl rfl (by kernel_rfl) (by kernel_rfl) (by kernel_rfl) (fun _ _ _ h => h) (Or.inl ⟨by rfl, ?y4⟩) hHeld ?r4
      case y4 => (intro w' hSw; skip; go_simp; (try with_reducible rfl))
      try simp only [Act.put, List.setIfInBounds_toArray, List.set_cons_zero, List.set_cons_succ]
      refine take_at (i := 7) 56 (v := ?v5) rfl rfl (by kernel_rfl) (by kernel_rfl) (by kernel_rfl) (fun _ _ _ h => h) (Or.inl ⟨by rfl, ?y5⟩) hHeld ?r5
      case y5 => (intro w' hSw; skip; go_simp; (try with_reducible rfl))
      try simp only [Act.put, List.setIfInBounds_toArray, List.set_cons_zero, List.set_cons_succ]
      refine take_at (i := 8) 57 (v := ?v6) rfl rfl (by kernel_rfl) (by kernel_rfl) (by kernel_rfl) (fun _ _ _ h => h) (Or.inl ⟨by rfl, ?y6⟩) hHeld ?r6
      case y6 => (intro w' hSw; skip; go_simp; (try with_reducible rfl))
      try simp only [Act.put, List.setIfInBounds_toArray, List.set_cons_zero, List.set_cons_succ]
      refine take_at (i := 9) 58 (v := ?v7) rfl rfl (by kernel_rfl) (by kernel_rfl) (by kernel_rfl) (fun _ _ _ h => h) (Or.inl ⟨by rfl, ?y7⟩) hHeld ?r7
      case y7 => (intro w' hSw; skip; go_simp; (try with_reducible rfl))
      try simp only [Act.put, List.setIfInBounds_toArray, List.set_cons_zero, List.set_cons_succ]
      refine wpAnyH_ready (rs := [0]) (by kernel_rfl) (by simp) ?_
      refine AllReadyH.cons rfl (fun K hK => ?_) AllReadyH.nil
      go_simp
      refine hK.out _ _ ?_ (fun hHeld => ?_)
      · exact Below.drew (bl_a (w := w4) _)
      clear hK K
      try simp only [Act.put, List.setIfInBounds_toArray, List.set_cons_zero, List.set_cons_succ]
      have HBX : Hid (Below w4.heap.size w4 (w4.alloc (.cells #[] 5)).drew) := Below.drew (bl_a (w := w4) _)
      have HTX : Hid (Tz (w4.alloc (.cells #[] 5)).drew w4.heap.size (some ⟨w4.heap.size, 0, none⟩) 0 0 []) := (Tz.new0 w4).below (Below.drew (Below.refl _ _))
      have HSX : Hid (Src Tryz.prog 1 22 (.slice (some ⟨g1, 0, none⟩) i cap1) i ((us.take i).map (Value.int .u8)) (w4.alloc (.cells #[] 5)).drew) := src_bs ((HT4.out.take hinn).1.below HBX.out)
      have HYX : Hid (Byt ([] ++ us.take i)) := by
        rw [List.nil_append]
        exact HY.out.takeB i
      have hBX : w4.heap.size ≤ ((w4.alloc (.cells #[] 5)).drew).heap.size := HBX.out.size
      refine wpAnyH_ready (rs := [4]) (by kernel_rfl) (by simp) ?_
      refine AllReadyH.cons rfl (fun K hK => ?_) AllReadyH.nil
      refine step_app8z rfl (.tmp 49) (.tmp 52) 22 rfl w4.heap.size 0 0 (some ⟨w4.heap.size, 0, none⟩) [] rfl HTX (.slice (some ⟨g1, 0, none⟩) i cap1) i (us.take i) rfl (fun h => by cases h) HSX HYX i (Nat.zero_add i) (us.take i) (List.nil_append _) (by omega) hBX ?_
      intro ga ca wa HTa HDa
      refine hK.out _ _ ?_ (fun hHeld => ?_)
      · exact HBX.out.trans HDa.out
      clear hK K
      try simp only [Act.put, List.setIfInBounds_toArray]
      have HBa : Hid (Below w4.heap.size w4 wa) := HBX.out.trans HDa.out
      have hBa : w4.heap.size ≤ wa.heap.size := HBa.out.size
      have HYa : Hid (Byt (us.take i ++ numsOf ws)) := (HY.out.takeB i).app (numsOf_byt ws)
      have HSa : Hid (Src Tryz.prog 1 9 (.string ws) ws.size ((numsOf ws).map (Value.int .u8)) wa) := src_str ws
      refine wpAnyH_ready (rs := [6]) (by kernel_rfl) (by simp) ?_
      refine AllReadyH.cons rfl (fun K hK => ?_) AllReadyH.nil
      refine step_app8z rfl (.tmp 53) (.tmp 54) 9 rfl w4.heap.size i ca (some ⟨ga, 0, none⟩) (us.take i) rfl HTa (.string ws) ws.size (numsOf ws) rfl (fun h => by cases h) HSa HYa (i + ws.size) rfl (us.take i ++ numsOf ws) rfl (by omega) hBa ?_
      intro gb cb' wb HTb HDb
      refine hK.out _ _ ?_ (fun hHeld => ?_)
      · exact HBa.out.trans HDb.out
      clear hK K
      try simp only [Act.put]
      have HBb : Hid (Below w4.heap.size w4 wb) := HBa.out.trans HDb.out
      have hBb : w4.heap.size ≤ wb.heap.size := HBb.out.size
      have HYb : Hid (Byt (us.take i ++ numsOf ws ++ us.drop i)) := HYa.out.app (HY.out.dropB i)
      have HSb : Hid (Src Tryz.prog 1 22 (.slice (some ⟨g1, i, none⟩) (n - i) (cap1 - i)) (n - i) ((us.drop i).map (Value.int .u8)) wb) := src_bs ((HT4.out.1.dropAt i hinn).below HBb.out)
      refine wpAnyH_ready (rs := [10]) (by kernel_rfl) (by simp) ?_
      refine AllReadyH.cons rfl (fun K hK => ?_) AllReadyH.nil
      refine step_app8z rfl (.tmp 55) (.tmp 58) 22 rfl w4.heap.size (i + ws.size) cb' (some ⟨gb, 0, none⟩) (us.take i ++ numsOf ws) rfl HTb (.slice (some ⟨g1, i, none⟩) (n - i) (cap1 - i)) (n - i) (us.drop i) rfl (fun h => by cases h) HSb HYb (i + ws.size + (n - i)) rfl (us.take i ++ numsOf ws ++ us.drop i) rfl (by omega) hBb ?_
      intro gc cc wc HTc HDc
      refine hK.out _ _ ?_ (fun hHeld => ?_)
      · exact HBb.out.trans HDc.out
      clear hK K
      try simp only [Act.put]
      have HBc : Hid (Below w4.heap.size w4 wc) := HBb.out.trans HDc.out
      refine wpAnyH_ready (rs := [11]) (by kernel_rfl) (by simp) ?_
      refine AllReadyH.cons rfl (fun K hK => ?_) AllReadyH.nil
      go_simp
      refine hK.out _ _ ?_ (fun hHeld => ?_)
      · exact HBc.out
      clear hK K
      try simp only [Act.put, List.setIfInBounds_toArray, List.set_cons_zero, List.set_cons_succ]
      refine wpAnyH_done (by kernel_rfl) ?_ _
      clear hHeld
      have hl : (us.take i ++ numsOf ws ++ us.drop i).length = i + ws.size + (n - i) := by
        have := HUL.out
        rw [List.length_append, List.length_append, List.length_take, List.length_drop, numsOf_len]
        omega
      go_wp2_with fail
      go_ret
      exact ⟨some ⟨gc, 0, none⟩, cc, us.take i ++ numsOf ws ++ us.drop i, by rw [hl]; rfl, by omega, by rw [hl]; exact HTc.out.mono (by omega), HP4.out.trans (Past.of_below HBc.out), HC4.out.below HBc.out⟩
    · go_wp2_with fail
      refine (BY _ HC3.out).mono ?_
      rintro e w4 ⟨v, rfl, v0, v1, hP4, hC4⟩
      have hwv : IntKind.u8.wrap v = v := by rw [IntKind.wrap_u8]; omega
      have HT4 : Hid (Tz w4 w.heap.size (some ⟨g1, 0, none⟩) n cap1 us) := HT3.out.past hP4 hgl
      have HP4 : Hid (Past g w w4) := HP3.out.trans hP4
      have HC4 : Hid (Cur w4 g a len cap) := hC4
      have hs4 := hP4.size
      clear hP4 hC4 HT3 HP3 HC3 BL BY
      obtain ⟨cv, hcv, hfv⟩ : ∃ v, w4.cell? ⟨g1, i, none⟩ = some v ∧ w4.frozen? ⟨g1, i, none⟩ = false := HT4.out.at hi
      have HF : Hid (SpoilRes g a len cap n w (.returned (.slice (some ⟨g1, 0, none⟩) n cap1)) (w4.setCell ⟨g1, i, none⟩ (.int .u8 v))) := spoil_set hgl HC.out HC4.out HP4.out HT4.out hi v ⟨v0, v1⟩
      go_wp2
      go_ret
      exact HF.out
    · clear BL BY
      have hin1 : i + 1 ≤ n := by omega
      have hin1z : (i : Int) + 1 ≤ (n : Int) := by omega
      have hi1z : (0 : Int) ≤ (i : Int) + 1 := by omega
      have hw1 : IntKind.i64.wrap ((i : Int) + 1) = (i : Int) + 1 := by rw [IntKind.wrap_i64]; omega
      have hn1 : ((i : Int) + 1).toNat = i + 1 := by omega
      go_wp2_with fail
      refine wp_region_held_drew (S := fun w' => Below w3.heap.size w3 w') (by kernel_rfl) ?_ (fun hHeld => ?_)
      · exact Below.drew (Below.refl _ _)
      refine take_at (i := 1) 71 (v := ?v14) rfl rfl (by kernel_rfl) (by kernel_rfl) (by kernel_rfl) (fun _ _ _ h => h) (Or.inl ⟨by rfl, ?y14⟩) hHeld ?r14
      case y14 => (intro w' hSw; skip; go_simp; (try with_reducible rfl))
      try simp only [Act.put, List.setIfInBounds_toArray, List.set_cons_zero, List.set_cons_succ]
      refine take_at (i := 2) 72 (v := ?v15) rfl rfl (by kernel_rfl) (by kernel_rfl) (by kernel_rfl) (fun _ _ _ h => h) (Or.inl ⟨by rfl, ?y15⟩) hHeld ?r15
      case y15 => (intro w' hSw; skip; go_simp; (try with_reducible rfl))
      try simp only [Act.put, List.setIfInBounds_toArray, List.set_cons_zero, List.set_cons_succ]
      refine take_at (i := 3) 73 (v := ?v16) rfl rfl (by kernel_rfl) (by kernel_rfl) (by kernel_rfl) (fun _ _ _ h => h) (Or.inl ⟨by rfl, ?y16⟩) hHeld ?r16
      case y16 => (intro w' hSw; skip; go_simp; (try with_reducible rfl))
      try simp only [Act.put, List.setIfInBounds_toArray, List.set_cons_zero, List.set_cons_succ]
      refine take_at (i := 5) 75 (v := ?v17) rfl rfl (by kernel_rfl) (by kernel_rfl) (by kernel_rfl) (fun _ _ _ h => h) (Or.inl ⟨by rfl, ?y17⟩) hHeld ?r17
      case y17 => (intro w' hSw; skip; go_simp; (try with_reducible rfl))
      try simp only [Act.put, List.setIfInBounds_toArray, List.set_cons_zero, List.set_cons_succ]
      refine take_at (i := 6) 76 (v := ?v18) rfl rfl (by kernel_rfl) (by kernel_rfl) (by kernel_rfl) (fun _ _ _ h => h) (Or.inl ⟨by rfl, ?y18⟩) hHeld ?r18
      case y18 => (intro w' hSw; skip; go_simp; (try with_reducible rfl))
      try simp only [Act.put, List.setIfInBounds_toArray, List.set_cons_zero, List.set_cons_succ]
      refine take_at (i := 7) 77 (v := (.int .i64 ((i : Int) + 1))) rfl rfl (by kernel_rfl) (by kernel_rfl) (by kernel_rfl) (fun _ _ _ h => h) (Or.inl ⟨by rfl, ?y19⟩) hHeld ?r19
      case y19 => (intro w' hSw; skip; go_simp; (try with_reducible rfl))
      try simp only [Act.put, List.setIfInBounds_toArray, List.set_cons_zero, List.set_cons_succ]
      refine take_at (i := 8) 78 (v := (.slice (if cap1 = i + 1 then some ⟨g1, 0, none⟩ else some ⟨g1, i + 1, none⟩) (n - (i + 1)) (cap1 - (i + 1)))) rfl rfl (by kernel_rfl) (by kernel_rfl) (by kernel_rfl) (fun _ _ _ h => h) (Or.inl ⟨by rfl, ?y20⟩) hHeld ?r20
      case y20 => (intro w' hSw; skip; go_simp; (try with_reducible rfl))
      try simp only [Act.put, List.setIfInBounds_toArray, List.set_cons_zero, List.set_cons_succ]
      refine wpAnyH_ready (rs := [0]) (by kernel_rfl) (by simp) ?_
      refine AllReadyH.cons rfl (fun K hK => ?_) AllReadyH.nil
      go_simp
      refine hK.out _ _ ?_ (fun hHeld => ?_)
      · exact Below.drew (bl_a (w := w3) _)
      clear hK K
      try simp only [Act.put, List.setIfInBounds_toArray, List.set_cons_zero, List.set_cons_succ]
      have HBX : Hid (Below w3.heap.size w3 (w3.alloc (.cells #[] 5)).drew) := Below.drew (bl_a (w := w3) _)
      have HTX : Hid (Tz (w3.alloc (.cells #[] 5)).drew w3.heap.size (some ⟨w3.heap.size, 0, none⟩) 0 0 []) := (Tz.new0 w3).below (Below.drew (Below.refl _ _))
      have HSX : Hid (Src Tryz.prog 1 22 (.slice (some ⟨g1, 0, none⟩) i cap1) i ((us.take i).map (Value.int .u8)) (w3.alloc (.cells #[] 5)).drew) := src_bs ((HT3.out.take hinn).1.below HBX.out)
      have HYX : Hid (Byt ([] ++ us.take i)) := by
        rw [List.nil_append]
        exact HY.out.takeB i
      have hBX : w3.heap.size ≤ ((w3.alloc (.cells #[] 5)).drew).heap.size := HBX.out.size
      refine wpAnyH_ready (rs := [4]) (by kernel_rfl) (by simp) ?_
      refine AllReadyH.cons rfl (fun K hK => ?_) AllReadyH.nil
      refine step_app8z rfl (.tmp 70) (.tmp 73) 22 rfl w3.heap.size 0 0 (some ⟨w3.heap.size, 0, none⟩) [] rfl HTX (.slice (some ⟨g1, 0, none⟩) i cap1) i (us.take i) rfl (fun h => by cases h) HSX HYX i (Nat.zero_add i) (us.take i) (List.nil_append _) (by omega) hBX ?_
      intro ga ca wa HTa HDa
      refine hK.out _ _ ?_ (fun hHeld => ?_)
      · exact HBX.out.trans HDa.out
      clear hK K
      try simp only [Act.put, List.setIfInBounds_toArray]
      have HBa : Hid (Below w3.heap.size w3 wa) := HBX.out.trans HDa.out
      have hBa : w3.heap.size ≤ wa.heap.size := HBa.out.size
      have HYa : Hid (Byt (us.take i ++ us.drop (i + 1))) := (HY.out.takeB i).app (HY.out.dropB _)
      have HSa : Hid (Src Tryz.prog 1 22 (.slice (if cap1 = i + 1 then some ⟨g1, 0, none⟩ else some ⟨g1, i + 1, none⟩) (n - (i + 1)) (cap1 - (i + 1))) (n - (i + 1)) ((us.drop (i + 1)).map (Value.int .u8)) wa) := src_bs ((drop_if HT3.out.1 hin1 hg1c).below HBa.out)
      refine wpAnyH_ready (rs := [9]) (by kernel_rfl) (by simp) ?_
      refine AllReadyH.cons rfl (fun K hK => ?_) AllReadyH.nil
      refine step_app8z rfl (.tmp 74) (.tmp 78) 22 rfl w3.heap.size i ca (some ⟨ga, 0, none⟩) (us.take i) rfl HTa (.slice (if cap1 = i + 1 then some ⟨g1, 0, none⟩ else some ⟨g1, i + 1, none⟩) (n - (i + 1)) (cap1 - (i + 1))) (n - (i + 1)) (us.drop (i + 1)) rfl (fun h => by cases h) HSa HYa (i + (n - (i + 1))) rfl (us.take i ++ us.drop (i + 1)) rfl (by omega) hBa ?_
      intro gb cb' wb HTb HDb
      refine hK.out _ _ ?_ (fun hHeld => ?_)
      · exact HBa.out.trans HDb.out
      clear hK K
      try simp only [Act.put]
      have HBb : Hid (Below w3.heap.size w3 wb) := HBa.out.trans HDb.out
      refine wpAnyH_ready (rs := [10]) (by kernel_rfl) (by simp) ?_
      refine AllReadyH.cons rfl (fun K hK => ?_) AllReadyH.nil
      go_simp
      refine hK.out _ _ ?_ (fun hHeld => ?_)
      · exact HBb.out
      clear hK K
      try simp only [Act.put, List.setIfInBounds_toArray, List.set_cons_zero, List.set_cons_succ]
      refine wpAnyH_done (by kernel_rfl) ?_ _
      clear hHeld
      have hl : (us.take i ++ us.drop (i + 1)).length = i + (n - (i + 1)) := by
        have := HUL.out
        rw [List.length_append, List.length_take, List.length_drop]
        omega
      clear HSa
      generalize (if cap1 = i + 1 then some (⟨g1, 0, none⟩ : Addr) else some ⟨g1, i + 1, none⟩) = A15
      go_wp2_with fail
      go_ret
      exact ⟨some ⟨gb, 0, none⟩, cb', us.take i ++ us.drop (i + 1), by rw [hl]; rfl, by omega, by rw [hl]; exact HTb.out.mono (by omega), HP3.out.trans (Past.of_below HBb.out), HC3.out.below HBb.out⟩
    · clear BY
      obtain ⟨cv, hcv, hcu, cv0, cv1, hfv⟩ : ∃ v, w3.cell? ⟨g1, i, none⟩ = some (.int .u8 v) ∧ us[i]? = some v ∧ 0 ≤ v ∧ v ≤ 255 ∧ w3.frozen? ⟨g1, i, none⟩ = false := HT3.out.byteAt hi
      go_wp2_with fail
      refine wp_region_held_drew (S := fun _ => True) (by kernel_rfl) trivial (fun hHeld => ?_)
      refine take_at (i := 0) 26 (v := ?v8) rfl rfl (by kernel_rfl) (by kernel_rfl) (by kernel_rfl) (fun _ _ _ h => h) (Or.inl ⟨by rfl, ?y8⟩) hHeld ?r8
      case y8 => (intro w' hSw; skip; go_simp; (try with_reducible rfl))
      try simp only [Act.put, List.setIfInBounds_toArray, List.set_cons_zero, List.set_cons_succ]
      refine take_at (i := 1) 27 (v := ?v9) rfl rfl (by kernel_rfl) (by kernel_rfl) (by kernel_rfl) (fun _ _ _ h => h) (Or.inl ⟨by rfl, ?y9⟩) hHeld ?r9
      case y9 => (intro w' hSw; skip; go_simp; (try with_reducible rfl))
      try simp only [Act.put, List.setIfInBounds_toArray, List.set_cons_zero, List.set_cons_succ]
      refine take_at (i := 2) 28 (v := ?v10) rfl rfl (by kernel_rfl) (by kernel_rfl) (by kernel_rfl) (fun _ _ _ h => h) (Or.inl ⟨by rfl, ?y10⟩) hHeld ?r10
      case y10 => (intro w' hSw; skip; go_simp; (try with_reducible rfl))
      try simp only [Act.put, List.setIfInBounds_toArray, List.set_cons_zero, List.set_cons_succ]
      refine take_at (i := 3) 29 (v := ?v11) rfl rfl (by kernel_rfl) (by kernel_rfl) (by kernel_rfl) (fun _ _ _ h => h) (Or.inl ⟨by rfl, ?y11⟩) hHeld ?r11
      case y11 => (intro w' hSw; skip; go_simp; (try with_reducible rfl))
      try simp only [Act.put, List.setIfInBounds_toArray, List.set_cons_zero, List.set_cons_succ]
      refine take_at (i := 6) 32 (v := ?v12) rfl rfl (by kernel_rfl) (by kernel_rfl) (by kernel_rfl) (fun _ _ _ h => h) (Or.inl ⟨by rfl, ?y12⟩) hHeld ?r12
      case y12 => (intro w' hSw; skip; go_simp; (try with_reducible rfl))
      try simp only [Act.put, List.setIfInBounds_toArray, List.set_cons_zero, List.set_cons_succ]
      refine take_at (i := 4) 30 (v := ?v13) rfl rfl (by kernel_rfl) (by kernel_rfl) (by kernel_rfl) (fun _ _ _ h => h) (Or.inl ⟨by rfl, ?y13⟩) hHeld ?r13
      case y13 => (intro w' hSw; skip; go_simp; (try with_reducible rfl))
      try simp only [Act.put, List.setIfInBounds_toArray, List.set_cons_zero, List.set_cons_succ]
      refine wpAnyH_ready (rs := [5, 7]) (by kernel_rfl) (by simp) ?_
      refine AllReadyH.cons rfl (fun K hK => ?_) (AllReadyH.cons rfl (fun K hK => ?_) AllReadyH.nil)
      · go_simp
        refine hK.out _ _ ?_ (fun hHeld => ?_)
        · exact trivial
        clear hK K
        try simp only [Act.put, List.setIfInBounds_toArray, List.set_cons_zero, List.set_cons_succ]
        refine wpAnyH_ready (rs := [7]) (by kernel_rfl) (by simp) ?_
        refine AllReadyH.cons rfl (fun K hK => ?_) AllReadyH.nil
        go_simp
        refine (BL _ 8 (HC3.out.below (Below.drew (Below.refl _ _))) (by omega) (by omega)).mono ?_
        rintro e w5 ⟨y, rfl, hy, hP5, hC5⟩
        have HP5 : Hid (Past g w3 w5) := (Past.of_below (Below.drew (Below.refl _ _))).trans hP5
        have HC5 : Hid (Cur w5 g a len cap) := hC5
        have hs5 := HP5.out.size
        clear hP5 hC5
        refine hK.out _ _ ?_ (fun hHeld => ?_)
        · exact trivial
        clear hK K
        try simp only [Act.put, List.setIfInBounds_toArray, List.set_cons_zero, List.set_cons_succ]
        refine take_at (i := 8) 34 (v := ?v21) rfl rfl (by kernel_rfl) (by kernel_rfl) (by kernel_rfl) (fun _ _ _ h => h) (Or.inl ⟨by rfl, ?y21⟩) hHeld ?r21
        case y21 => (intro w' hSw; skip; go_simp; (try with_reducible rfl))
        try simp only [Act.put, List.setIfInBounds_toArray, List.set_cons_zero, List.set_cons_succ]
        refine take_at (i := 9) 35 (v := ?v22) rfl rfl (by kernel_rfl) (by kernel_rfl) (by kernel_rfl) (fun _ _ _ h => h) (Or.inl ⟨by rfl, ?y22⟩) hHeld ?r22
        case y22 => (intro w' hSw; skip; go_simp; (try with_reducible rfl))
        try simp only [Act.put, List.setIfInBounds_toArray, List.set_cons_zero, List.set_cons_succ]
        refine take_at (i := 10) 36 (v := ?v23) rfl rfl (by kernel_rfl) (by kernel_rfl) (by kernel_rfl) (fun _ _ _ h => h) (Or.inl ⟨by rfl, ?y23⟩) hHeld ?r23
        case y23 => (intro w' hSw; skip; go_simp; (try with_reducible rfl))
        try simp only [Act.put, List.setIfInBounds_toArray, List.set_cons_zero, List.set_cons_succ]
        have e5 := (HP5.out.cell (p := ⟨g1, i, none⟩) (by show g1 < _; omega) (by show g1 ≠ g; omega)).trans hcv
        have f5 := (HP5.out.frozen (p := ⟨g1, i, none⟩) (by show g1 < _; omega) (by show g1 ≠ g; omega)).trans hfv
        refine wpAnyH_ready (rs := [11]) (by kernel_rfl) (by simp) ?_
        refine AllReadyH.cons rfl (fun K hK => ?_) AllReadyH.nil
        go_simp
        refine hK.out _ _ ?_ (fun hHeld => ?_)
        · exact trivial
        clear hK K
        try simp only [Act.put, List.setIfInBounds_toArray, List.set_cons_zero, List.set_cons_succ]
        refine wpAnyH_done (by kernel_rfl) ?_ _
        clear hHeld
        have hxb := xor_byte cv (IntKind.u8.wrap (2 ^ y))
        generalize bits BinOp.xor IntKind.u8 cv (IntKind.u8.wrap (2 ^ y)) = V at *
        have HF : Hid (SpoilRes g a len cap n w (.returned (.slice (some ⟨g1, 0, none⟩) n cap1)) (w5.setCell ⟨g1, i, none⟩ (.int .u8 V))) := spoil_set hgl HC.out HC5.out (HP3.out.trans HP5.out) (HT3.out.past HP5.out hgl) hi V hxb
        go_wp2_with fail
        go_ret
        exact HF.out
      · go_simp
        refine (BL _ 8 (HC3.out.below (Below.drew (Below.refl _ _))) (by omega) (by omega)).mono ?_
        rintro e w5 ⟨y, rfl, hy, hP5, hC5⟩
        have HP5 : Hid (Past g w3 w5) := (Past.of_below (Below.drew (Below.refl _ _))).trans hP5
        have HC5 : Hid (Cur w5 g a len cap) := hC5
        have hs5 := HP5.out.size
        clear hP5 hC5
        refine hK.out _ _ ?_ (fun hHeld => ?_)
        · exact trivial
        clear hK K
        try simp only [Act.put, List.setIfInBounds_toArray, List.set_cons_zero, List.set_cons_succ]
        have e1 := (HP5.out.cell (p := ⟨g1, i, none⟩) (by show g1 < _; omega) (by show g1 ≠ g; omega)).trans hcv
        refine take_at (i := 8) 34 (v := ?v24) rfl rfl (by kernel_rfl) (by kernel_rfl) (by kernel_rfl) (fun _ _ _ h => h) (Or.inl ⟨by rfl, ?y24⟩) hHeld ?r24
        case y24 => (intro w' hSw; skip; go_simp; (try with_reducible rfl))
        try simp only [Act.put, List.setIfInBounds_toArray, List.set_cons_zero, List.set_cons_succ]
        refine wpAnyH_ready (rs := [5]) (by kernel_rfl) (by simp) ?_
        refine AllReadyH.cons rfl (fun K hK => ?_) AllReadyH.nil
        go_simp
        refine hK.out _ _ ?_ (fun hHeld => ?_)
        · exact trivial
        clear hK K
        try simp only [Act.put, List.setIfInBounds_toArray, List.set_cons_zero, List.set_cons_succ]
        refine take_at (i := 9) 35 (v := ?v25) rfl rfl (by kernel_rfl) (by kernel_rfl) (by kernel_rfl) (fun _ _ _ h => h) (Or.inl ⟨by rfl, ?y25⟩) hHeld ?r25
        case y25 => (intro w' hSw; skip; go_simp; (try with_reducible rfl))
        try simp only [Act.put, List.setIfInBounds_toArray, List.set_cons_zero, List.set_cons_succ]
        refine take_at (i := 10) 36 (v := ?v26) rfl rfl (by kernel_rfl) (by kernel_rfl) (by kernel_rfl) (fun _ _ _ h => h) (Or.inl ⟨by rfl, ?y26⟩) hHeld ?r26
        case y26 => (intro w' hSw; skip; go_simp; (try with_reducible rfl))
        try simp only [Act.put, List.setIfInBounds_toArray, List.set_cons_zero, List.set_cons_succ]
        have e5 := (HP5.out.cell (p := ⟨g1, i, none⟩) (by show g1 < _; omega) (by show g1 ≠ g; omega)).trans hcv
        have f5 := (HP5.out.frozen (p := ⟨g1, i, none⟩) (by show g1 < _; omega) (by show g1 ≠ g; omega)).trans hfv
        refine wpAnyH_ready (rs := [11]) (by kernel_rfl) (by simp) ?_
        refine AllReadyH.cons rfl (fun K hK => ?_) AllReadyH.nil
        go_simp
        refine hK.out _ _ ?_ (fun hHeld => ?_)
        · exact trivial
        clear hK K
        try simp only [Act.put, List.setIfInBounds_toArray, List.set_cons_zero, List.set_cons_succ]
        refine wpAnyH_done (by kernel_rfl) ?_ _
        clear hHeld
        have hxb := xor_byte cv (IntKind.u8.wrap (2 ^ y))
        generalize bits BinOp.xor IntKind.u8 cv (IntKind.u8.wrap (2 ^ y)) = V at *
        have HF : Hid (SpoilRes g a len cap n w (.returned (.slice (some ⟨g1, 0, none⟩) n cap1)) (w5.setCell ⟨g1, i, none⟩ (.int .u8 V))) := spoil_set hgl HC.out HC5.out (HP3.out.trans HP5.out) (HT3.out.past HP5.out hgl) hi V hxb
        go_wp2_with fail
        go_ret
        exact HF.out
end Go.Proofs.YtiodiooaaojbhaaGreatDoor
