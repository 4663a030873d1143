/- Texts put together: TbE -/
import Derived.Test.YtganfiajhokkmaaGreatDoorMk06
import Derived.Test.YtganfiajhokkmaaGreatDoorMk07
/- TbE -/
namespace Go.Proofs.YtganfiajhokkmaaGreatDoor
open Go.RowKit Go.Deep
set_option maxRecDepth 100000

set_option maxHeartbeats 2000000 in
theorem l4hasG (a : Option Addr) (cap : Nat) (L : List SL) (x : SL) (w0 w : World) (htx : ∀ y ∈ L, BsF 0 w0 y) (hf : L = [] ∨ ∃ g off, a = some ⟨g, off, none⟩ ∧ g < w.heap.size ∧ ∀ i x, L[i]? = some x → w.cell? ⟨g, off + i, none⟩ = some (.slice x.a x.len x.cap)) (hw : Below w0.heap.size w0 w) (hx : BsF 0 w0 x) (hn : L.length ≤ 1048576) :
    Calls Tryz.prog 33 #[.slice a L.length cap, .slice x.a x.len x.cap] w (Tells (InL x.b L) w) := by
  obtain ⟨n, hnn⟩ : ∃ n, n = L.length := ⟨_, rfl⟩
  have HN : Hid (n = L.length) := hnn
  have HT : Hid (∀ y ∈ L, BsF 0 w0 y) := htx
  have HX : Hid (BsF 0 w0 x) := hx
  have HW : Hid (Below w0.heap.size w0 w) := hw
  have HG : Hid (L = [] ∨ ∃ g off, a = some ⟨g, off, none⟩ ∧ g < w.heap.size ∧ ∀ i x, L[i]? = some x → w.cell? ⟨g, off + i, none⟩ = some (.slice x.a x.len x.cap)) := hf
  rw [← hnn] at hn ⊢
  clear htx hw hx hf hnn
  go_enter Tryz.func33, Tryz.ntmps33
  go_wp2_with fail
  go_loopw [5] (fun i wr => ∃ k : Nat, k ≤ n ∧ i = .int .i64 k ∧ Hid (∀ j y, j < k → L[j]? = some y → y.b ≠ x.b) ∧ Hid (Below w.heap.size w wr)) (fun i _ => n - (intOf i).toNat)
  case atStart => exact ⟨0, Nat.zero_le _, rfl, fun j y hj => absurd hj (Nat.not_lt_zero _), Below.refl _ _⟩
  case round =>
    obtain ⟨k, hk, rfl, HNE, HB⟩ := hrel
    by_cases hlk : k < n
    · have hlkz : (k : Int) < (n : Int) := by omega
      obtain ⟨y, hy⟩ : ∃ y, L[k]? = some y := ⟨_, List.getElem?_eq_getElem (by rw [← HN.out]; exact hlk)⟩
      obtain ⟨g, off, ea, hg, hc⟩ := HG.out.resolve_left (fun e => by rw [e] at hy; cases hy)
      have hty := HT.out y (List.mem_of_getElem? hy)
      have HY : Hid (L[k]? = some y) := hy
      have HF : Hid (∀ w', Below wr.heap.size wr w' → w'.cell? ⟨g, off + k, none⟩ = some (.slice y.a y.len y.cap) ∧ (convert 27 9 (.slice y.a y.len y.cap)).run Tryz.prog w' = .ok (.string (strOfNums y.b)) w' ∧ (convert 27 9 (.slice x.a x.len x.cap)).run Tryz.prog w' = .ok (.string (strOfNums x.b)) w') := fun w' hb => ⟨((bl_trans HB.out hb).cell (p := ⟨g, off + k, none⟩) hg).trans (hc k y hy), (hty.1.below (bl_trans HW.out (bl_trans HB.out hb))).str, (HX.out.1.below (bl_trans HW.out (bl_trans HB.out hb))).str⟩
      subst ea
      clear hc hy
      by_cases hyx : y.b = x.b
      · have HIN : Hid (InL x.b L) := (show x.b ∈ L.map SL.b by rw [← hyx]; exact List.mem_map_of_mem (f := SL.b) (List.mem_of_getElem? HY.out))
        rw [hyx] at HF
        clear hyx hty
        go_wp2_with fail
        refine wp_region_held_drew (S := fun w' => Below wr.heap.size wr w') (by kernel_rfl) ?_ (fun hHeld => ?_)
        · exact Below.drew (Below.refl _ _)
        refine takeq (i := 0) 12 (v := ?v1) rfl rfl (by kernel_rfl) (by kernel_rfl) (by kernel_rfl) (fun _ _ _ h => h) (Or.inl ⟨by rfl, ?y1⟩) hHeld ?r1
        case y1 => (intro w' hSw; skip; go_simp; (try with_reducible rfl))
        try simp only [Act.put, List.setIfInBounds_toArray, List.set_cons_zero, List.set_cons_succ]
        refine takeq (i := 1) 13 (v := ?v2) rfl rfl (by kernel_rfl) (by kernel_rfl) (by kernel_rfl) (fun _ _ _ h => h) (Or.inl ⟨by rfl, ?y2⟩) hHeld ?r2
        case y2 => (intro w' hSw; skip; go_simp; (try with_reducible rfl))
        try simp only [Act.put, List.setIfInBounds_toArray, List.set_cons_zero, List.set_cons_succ]
        refine takeq (i := 2) 14 (v := ?v3) rfl rfl (by kernel_rfl) (by kernel_rfl) (by kernel_rfl) (fun _ _ _ h => h) (Or.inl ⟨by rfl, ?y3⟩) hHeld ?r3
        case y3 => (intro w' hSw; skip; go_simp; (try with_reducible rfl))
        try simp only [Act.put, List.setIfInBounds_toArray, List.set_cons_zero, List.set_cons_succ]
        refine takeq (i := 3) 15 (v := ?v4) rfl rfl (by kernel_rfl) (by kernel_rfl) (by kernel_rfl) (fun _ _ _ h => h) (Or.inl ⟨by rfl, ?y4⟩) hHeld ?r4
        case y4 => (intro w' hSw; obtain ⟨q1, q2, q3⟩ := HF.out w' hSw; go_simp; (try with_reducible rfl))
        try simp only [Act.put, List.setIfInBounds_toArray, List.set_cons_zero, List.set_cons_succ]
        refine takeq (i := 4) 16 (v := ?v5) rfl rfl (by kernel_rfl) (by kernel_rfl) (by kernel_rfl) (fun _ _ _ h => h) (Or.inl ⟨by rfl, ?y5⟩) hHeld ?r5
        case y5 => (intro w' hSw; obtain ⟨q1, q2, q3⟩ := HF.out w' hSw; go_simp; (try with_reducible rfl))
        try simp only [Act.put, List.setIfInBounds_toArray, List.set_cons_zero, List.set_cons_succ]
        refine takeq (i := 5) 17 (v := ?v6) rfl rfl (by kernel_rfl) (by kernel_rfl) (by kernel_rfl) (fun _ _ _ h => h) (Or.inl ⟨by rfl, ?y6⟩) hHeld ?r6
        case y6 => (intro w' hSw; skip; go_simp; (try with_reducible rfl))
        try simp only [Act.put, List.setIfInBounds_toArray, List.set_cons_zero, List.set_cons_succ]
        refine takeq (i := 6) 18 (v := ?v7) rfl rfl (by kernel_rfl) (by kernel_rfl) (by kernel_rfl) (fun _ _ _ h => h) (Or.inl ⟨by rfl, ?y7⟩) hHeld ?r7
        case y7 => (intro w' hSw; obtain ⟨q1, q2, q3⟩ := HF.out w' hSw; go_simp; (try with_reducible rfl))
        try simp only [Act.put, List.setIfInBounds_toArray, List.set_cons_zero, List.set_cons_succ]
        refine takeq (i := 7) 19 (v := ?v8) rfl rfl (by kernel_rfl) (by kernel_rfl) (by kernel_rfl) (fun _ _ _ h => h) (Or.inl ⟨by rfl, ?y8⟩) hHeld ?r8
        case y8 => (intro w' hSw; skip; go_simp; (try with_reducible rfl))
        try simp only [Act.put, List.setIfInBounds_toArray, List.set_cons_zero, List.set_cons_succ]
        refine wpAnyH_done (by kernel_rfl) ?_ _
        have HBq : Hid (Below w.heap.size w wr.drew) := Below.drew HB.out
        clear hHeld HF
        go_wp2_with fail
        go_ret
        exact Tells.yes HIN.out HBq.out
      · have hs := str_ne hty.1.byt HX.out.1.byt hyx
        have hs0 := str_ne2 hty.1.byt HX.out.1.byt hyx
        have hs1 : ((strOfNums y.b).toList == (strOfNums x.b).toList) = false := beq_false_of_ne hs0
        have hs2 : decide (strOfNums y.b = strOfNums x.b) = false := decide_eq_false hs
        have HYX : Hid (y.b ≠ x.b) := hyx
        clear hyx hty
        go_wp2_with fail
        refine wp_region_held_drew (S := fun w' => Below wr.heap.size wr w') (by kernel_rfl) ?_ (fun hHeld => ?_)
        · exact Below.drew (Below.refl _ _)
        refine takeq (i := 0) 12 (v := ?v101) rfl rfl (by kernel_rfl) (by kernel_rfl) (by kernel_rfl) (fun _ _ _ h => h) (Or.inl ⟨by rfl, ?y101⟩) hHeld ?r101
        case y101 => (intro w' hSw; skip; go_simp; (try with_reducible rfl))
        try simp only [Act.put, List.setIfInBounds_toArray, List.set_cons_zero, List.set_cons_succ]
        refine takeq (i := 1) 13 (v := ?v102) rfl rfl (by kernel_rfl) (by kernel_rfl) (by kernel_rfl) (fun _ _ _ h => h) (Or.inl ⟨by rfl, ?y102⟩) hHeld ?r102
        case y102 => (intro w' hSw; skip; go_simp; (try with_reducible rfl))
        try simp only [Act.put, List.setIfInBounds_toArray, List.set_cons_zero, List.set_cons_succ]
        refine takeq (i := 2) 14 (v := ?v103) rfl rfl (by kernel_rfl) (by kernel_rfl) (by kernel_rfl) (fun _ _ _ h => h) (Or.inl ⟨by rfl, ?y103⟩) hHeld ?r103
        case y103 => (intro w' hSw; skip; go_simp; (try with_reducible rfl))
        try simp only [Act.put, List.setIfInBounds_toArray, List.set_cons_zero, List.set_cons_succ]
        refine takeq (i := 3) 15 (v := ?v104) rfl rfl (by kernel_rfl) (by kernel_rfl) (by kernel_rfl) (fun _ _ _ h => h) (Or.inl ⟨by rfl, ?y104⟩) hHeld ?r104
        case y104 => (intro w' hSw; obtain ⟨q1, q2, q3⟩ := HF.out w' hSw; go_simp; (try with_reducible rfl))
        try simp only [Act.put, List.setIfInBounds_toArray, List.set_cons_zero, List.set_cons_succ]
        refine takeq (i := 4) 16 (v := ?v105) rfl rfl (by kernel_rfl) (by kernel_rfl) (by kernel_rfl) (fun _ _ _ h => h) (Or.inl ⟨by rfl, ?y105⟩) hHeld ?r105
        case y105 => (intro w' hSw; obtain ⟨q1, q2, q3⟩ := HF.out w' hSw; go_simp; (try with_reducible rfl))
        try simp only [Act.put, List.setIfInBounds_toArray, List.set_cons_zero, List.set_cons_succ]
        refine takeq (i := 5) 17 (v := ?v106) rfl rfl (by kernel_rfl) (by kernel_rfl) (by kernel_rfl) (fun _ _ _ h => h) (Or.inl ⟨by rfl, ?y106⟩) hHeld ?r106
        case y106 => (intro w' hSw; skip; go_simp; (try with_reducible rfl))
        try simp only [Act.put, List.setIfInBounds_toArray, List.set_cons_zero, List.set_cons_succ]
        refine takeq (i := 6) 18 (v := ?v107) rfl rfl (by kernel_rfl) (by kernel_rfl) (by kernel_rfl) (fun _ _ _ h => h) (Or.inl ⟨by rfl, ?y107⟩) hHeld ?r107
        case y107 => (intro w' hSw; obtain ⟨q1, q2, q3⟩ := HF.out w' hSw; go_simp; (try with_reducible rfl))
        try simp only [Act.put, List.setIfInBounds_toArray, List.set_cons_zero, List.set_cons_succ]
        refine takeq (i := 7) 19 (v := ?v108) rfl rfl (by kernel_rfl) (by kernel_rfl) (by kernel_rfl) (fun _ _ _ h => h) (Or.inl ⟨by rfl, ?y108⟩) hHeld ?r108
        case y108 => (intro w' hSw; skip; go_simp; (try with_reducible rfl))
        try simp only [Act.put, List.setIfInBounds_toArray, List.set_cons_zero, List.set_cons_succ]
        refine wpAnyH_done (by kernel_rfl) ?_ _
        have HBq : Hid (Below w.heap.size w wr.drew) := Below.drew HB.out
        clear hHeld HF
        clear hs hs0 hs1 hs2
        generalize wr.drew = wq at *
        go_wp2_with fail
        go_roundw
        case rel =>
          refine ⟨k + 1, by omega, by go_num, fun j z hj hz => ?_, HBq⟩
          by_cases e : j = k
          · subst e
            rw [HY.out] at hz
            cases hz
            exact HYX.out
          · exact HNE.out j z (by omega) hz
        case measure => simp [intOf]; omega
    · obtain rfl : k = n := by omega
      have hlkz : ¬ (k : Int) < (k : Int) := by omega
      have HNI : Hid (¬ InL x.b L) := fun hm => by
        obtain ⟨y, hy, e⟩ := List.mem_map.1 hm
        obtain ⟨j, hj, rfl⟩ := List.mem_iff_getElem.1 hy
        exact HNE.out j _ (by rw [HN.out]; exact hj) (List.getElem?_eq_getElem hj) e
      go_wp2_with fail
      go_ret
      exact Tells.no HNI.out HB.out
/-- What a cell must be. -/
def cellOk (x : CB) : Prop := (x.has = true → x.t.td.ok = true) ∧ (x.has = false → zeroT x.t.td)
def solOk (s : SO) (n : Nat) : Prop := s.n = n ∧ ∀ i, i < s.n → cellOk (s.cel i)
def varOk (var : Nat → SL) (i : Nat) : Prop := nameOk (var i).b = true ∧ ∀ j, j < i → (var j).b ≠ (var i).b
def varsOkL (n : Nat) (var : Nat → SL) : Prop := n ≤ 8 ∧ ∀ i, i < n → varOk var i
def tabOk (t : TL) : Prop := varsOkL t.vn t.var ∧ t.rn ≤ 300 ∧ ∀ i, i < t.rn → solOk (t.row i) t.vn
theorem l4hasR {a : Option Addr} {cap n : Nat} {var : Nat → SL} {x : SL} {w : World} (hR : KRow 0 w 1 a n (fun i => (var i).cells)) (hl : ∀ i, i < n → (var i).lies 0 w) (hx : BsF 0 w x) (hn : n ≤ 1048576) {W : World} (hw : Below w.heap.size w W) :
    Calls Tryz.prog 33 #[.slice a n cap, .slice x.a x.len x.cap] W (Tells (∃ j, j < n ∧ (var j).b = x.b) W) := by
  have h := l4hasG a cap ((List.range n).map var) x w W (fun y hy => by
    obtain ⟨i, hi, rfl⟩ := List.mem_map.1 hy
    exact hl i (List.mem_range.1 hi)) (by
    rcases hR with h0 | ⟨b, off, ha, _, hlt, hc⟩
    · left; rw [h0]; rfl
    · refine .inr ⟨b, off, ha, Nat.lt_of_lt_of_le hlt hw.size, fun i y hy => ?_⟩
      obtain ⟨hi, e⟩ := List.getElem?_eq_some_iff.1 hy
      have hi2 : i < n := by simpa using hi
      have e2 : var i = y := by simpa using e
      have h2 := hc i hi2 0 _ rfl
      rw [Nat.mul_one, Nat.add_zero] at h2
      rw [← e2]
      exact (hw.cell (p := ⟨b, off + i, none⟩) hlt).trans h2) hw hx (by simpa using hn)
  have e : ((List.range n).map var).length = n := by simp
  rw [e] at h
  refine h.mono fun r w' hh => ?_
  obtain ⟨q, h1, h2, h3⟩ := hh
  refine ⟨q, h1, h2.trans ?_, h3⟩
  unfold InL
  simp only [List.mem_map, List.mem_range]
  exact ⟨fun ⟨y, ⟨i, hi, e1⟩, e2⟩ => ⟨i, hi, by rw [e1]; exact e2⟩, fun ⟨j, hj, e1⟩ => ⟨var j, ⟨j, hj, rfl⟩, e1⟩⟩
set_option maxHeartbeats 8000000 in
theorem l6varsOk_any (a : Option Addr) (n cap : Nat) (var : Nat → SL) (w : World) (hR : KRow 0 w 1 a n (fun i => (var i).cells)) (hl : ∀ i, i < n → (var i).lies 0 w) (hn : n ≤ 1048576) (hcap : n ≤ cap) :
    Calls Tryz.prog 15 #[.slice a n cap] w (Tells (varsOkL n var) w) := by
  by_cases h8 : n ≤ 8
  rotate_left
  · have h8z : (n : Int) > 8 := by omega
    clear hR hl
    go_enter Tryz.func15, Tryz.ntmps15
    go_wp2
    go_ret
    exact Tells.no (fun hh => h8 hh.1) (Below.refl _ _)
  by_cases hn0 : n = 0
  · subst hn0
    have HY : Hid (varsOkL 0 var) := ⟨by omega, fun i hi => absurd hi (Nat.not_lt_zero _)⟩
    clear hR hl hn hcap h8
    go_enter Tryz.func15, Tryz.ntmps15
    go_wp2
    refine wp_loop_rounds 1 ?_
    rw [rounds_succ]
    go_wp2
    go_ret
    exact Tells.yes HY.out (Below.refl _ _)
  have HZ2 : Hid (∀ k, k < n → ∀ W, Below w.heap.size w W → Calls Tryz.prog 33 #[.slice a k cap, .slice (var k).a (var k).len (var k).cap] W (Tells (∃ j, j < k ∧ (var j).b = (var k).b) W)) := fun k hk W hb => l4hasR (by
    rcases hR with h | ⟨b, off, ha, h1, h2, h3⟩
    · exact absurd h hn0
    · exact .inr ⟨b, off, ha, h1, h2, fun i hi => h3 i (by omega)⟩) (fun i hi => hl i (by omega)) (hl k hk) (by omega) hb
  have HZ1 : Hid (∀ k, k < n → ∀ W, Below w.heap.size w W → Calls Tryz.prog 32 #[.slice (var k).a (var k).len (var k).cap] W (Tells (nameOk (var k).b = true) W)) := fun k hk W hb => l4var_any (var k) W (BsF.upper (hl k hk) (Upper.of_below hb))
  obtain ⟨b, off, rfl, _, hlt, hc⟩ := hR.resolve_left hn0
  have HC : Hid (∀ i, i < n → w.cell? ⟨b, off + i, none⟩ = some (.slice (var i).a (var i).len (var i).cap)) := fun i hi => (by have h := hc i hi 0 _ rfl; rwa [Nat.mul_one] at h)
  have h8z : ¬ (n : Int) > 8 := by omega
  clear hR hc hl
  go_enter Tryz.func15, Tryz.ntmps15
  go_wp2_with fail
  go_loopw [3] (fun i wr => ∃ k : Nat, k ≤ n ∧ i = .int .i64 k ∧ Hid (∀ j, j < k → varOk var j) ∧ Hid (Below w.heap.size w wr)) (fun i _ => n - (intOf i).toNat)
  case atStart => exact ⟨0, Nat.zero_le _, rfl, fun j hj => absurd hj (Nat.not_lt_zero _), Below.refl _ _⟩
  case round =>
    obtain ⟨k, hk, rfl, HOK, HB⟩ := hrel
    by_cases hlk : k < n
    rotate_left
    · obtain rfl : k = n := by omega
      have hlkz : ¬ (k : Int) < (k : Int) := by omega
      go_wp2_with fail
      go_ret
      exact Tells.yes ⟨h8, HOK.out⟩ HB.out
    have hlkz : (k : Int) < (n : Int) := by omega
    have hkc : (k : Int) ≤ (cap : Int) := by omega
    have HF : Hid (∀ w', Below wr.heap.size wr w' → w'.cell? ⟨b, off + k, none⟩ = some (.slice (var k).a (var k).len (var k).cap)) := fun w' hw => ((bl_trans HB.out hw).cell (p := ⟨b, off + k, none⟩) hlt).trans (HC.out k hlk)
    have Z1 := HZ1.out k hlk
    go_wp2_with fail
    refine wp_region_held_drew (S := fun w' => Below wr.heap.size wr w') (by kernel_rfl) ?_ (fun hHeld => ?_)
    · exact Below.drew (Below.refl _ _)
    refine takeq (i := 0) 13 (v := ?v1) rfl rfl (by kernel_rfl) (by kernel_rfl) (by kernel_rfl) (fun _ _ _ h => h) (Or.inl ⟨by rfl, ?y1⟩) hHeld ?r1
    case y1 => (intro w' hSw; skip; go_simp; (try with_reducible rfl))
    try simp only [Act.put, List.setIfInBounds_toArray, List.set_cons_zero, List.set_cons_succ]
    refine takeq (i := 1) 14 (v := ?v2) rfl rfl (by kernel_rfl) (by kernel_rfl) (by kernel_rfl) (fun _ _ _ h => h) (Or.inl ⟨by rfl, ?y2⟩) hHeld ?r2
    case y2 => (intro w' hSw; skip; go_simp; (try with_reducible rfl))
    try simp only [Act.put, List.setIfInBounds_toArray, List.set_cons_zero, List.set_cons_succ]
    refine takeq (i := 2) 15 (v := ?v3) rfl rfl (by kernel_rfl) (by kernel_rfl) (by kernel_rfl) (fun _ _ _ h => h) (Or.inl ⟨by rfl, ?y3⟩) hHeld ?r3
    case y3 => (intro w' hSw; skip; go_simp; (try with_reducible rfl))
    try simp only [Act.put, List.setIfInBounds_toArray, List.set_cons_zero, List.set_cons_succ]
    refine takeq (i := 3) 16 (v := ?v4) rfl rfl (by kernel_rfl) (by kernel_rfl) (by kernel_rfl) (fun _ _ _ h => h) (Or.inl ⟨by rfl, ?y4⟩) hHeld ?r4
    case y4 => (intro w' hSw; have q1 := HF.out w' hSw; go_simp; (try with_reducible rfl))
    try simp only [Act.put, List.setIfInBounds_toArray, List.set_cons_zero, List.set_cons_succ]
    refine wpAnyH_ready (rs := [4]) (by kernel_rfl) (by simp) ?_
    refine AllReadyH.cons rfl (fun K hK => ?_) AllReadyH.nil
    go_simp
    refine (Z1 wr.drew (Below.drew HB.out)).mono ?_
    rintro e w2 ⟨q2, rfl, hq2, hb2⟩
    have HB2 : Hid (Below wr.heap.size wr w2) := (Below.drew (Below.refl _ _)).trans hb2
    clear hb2 Z1
    cases q2 with
    | false =>
      have HNO : Hid (¬ varsOkL n var) := fun hh => by have h := hq2.2 (hh.2 k hlk).1; cases h
      clear hq2
      go_wp2_with fail
      refine hK.out _ _ ?_ (fun hHeld => ?_)
      · exact HB2.out
      clear hK K
      try simp only [Act.put, List.setIfInBounds_toArray, List.set_cons_zero, List.set_cons_succ]
      refine takeq (i := 5) 18 (v := ?v5) rfl rfl (by kernel_rfl) (by kernel_rfl) (by kernel_rfl) (fun _ _ _ h => h) (Or.inl ⟨by rfl, ?y5⟩) hHeld ?r5
      case y5 => (intro w' hSw; skip; go_simp; (try with_reducible rfl))
      try simp only [Act.put, List.setIfInBounds_toArray, List.set_cons_zero, List.set_cons_succ]
      refine takeq (i := 6) 19 (v := ?v6) rfl rfl (by kernel_rfl) (by kernel_rfl) (by kernel_rfl) (fun _ _ _ h => h) (Or.inl ⟨by rfl, ?y6⟩) hHeld ?r6
      case y6 => (intro w' hSw; skip; go_simp; (try with_reducible rfl))
      try simp only [Act.put, List.setIfInBounds_toArray, List.set_cons_zero, List.set_cons_succ]
      refine takeq (i := 7) 20 (v := undef) rfl rfl (by kernel_rfl) (by kernel_rfl) (by kernel_rfl) (fun _ _ _ h => h) (Or.inr ⟨by rfl, rfl⟩) hHeld ?_
      try simp only [Act.put, List.setIfInBounds_toArray, List.set_cons_zero, List.set_cons_succ]
      refine takeq (i := 8) 21 (v := undef) rfl rfl (by kernel_rfl) (by kernel_rfl) (by kernel_rfl) (fun _ _ _ h => h) (Or.inr ⟨by rfl, rfl⟩) hHeld ?_
      try simp only [Act.put, List.setIfInBounds_toArray, List.set_cons_zero, List.set_cons_succ]
      refine takeq (i := 9) 22 (v := undef) rfl rfl (by kernel_rfl) (by kernel_rfl) (by kernel_rfl) (fun _ _ _ h => h) (Or.inr ⟨by rfl, rfl⟩) hHeld ?_
      try simp only [Act.put, List.setIfInBounds_toArray, List.set_cons_zero, List.set_cons_succ]
      refine takeq (i := 10) 23 (v := undef) rfl rfl (by kernel_rfl) (by kernel_rfl) (by kernel_rfl) (fun _ _ _ h => h) (Or.inr ⟨by rfl, rfl⟩) hHeld ?_
      try simp only [Act.put, List.setIfInBounds_toArray, List.set_cons_zero, List.set_cons_succ]
      refine takeq (i := 11) 24 (v := undef) rfl rfl (by kernel_rfl) (by kernel_rfl) (by kernel_rfl) (fun _ _ _ h => h) (Or.inr ⟨by rfl, rfl⟩) hHeld ?_
      try simp only [Act.put, List.setIfInBounds_toArray, List.set_cons_zero, List.set_cons_succ]
      refine takeq (i := 12) 25 (v := undef) rfl rfl (by kernel_rfl) (by kernel_rfl) (by kernel_rfl) (fun _ _ _ h => h) (Or.inr ⟨by rfl, rfl⟩) hHeld ?_
      try simp only [Act.put, List.setIfInBounds_toArray, List.set_cons_zero, List.set_cons_succ]
      refine takeq (i := 13) 26 (v := undef) rfl rfl (by kernel_rfl) (by kernel_rfl) (by kernel_rfl) (fun _ _ _ h => h) (Or.inr ⟨by rfl, rfl⟩) hHeld ?_
      try simp only [Act.put, List.setIfInBounds_toArray, List.set_cons_zero, List.set_cons_succ]
      refine takeq (i := 14) 27 (v := undef) rfl rfl (by kernel_rfl) (by kernel_rfl) (by kernel_rfl) (fun _ _ _ h => h) (Or.inr ⟨by rfl, rfl⟩) hHeld ?_
      try simp only [Act.put, List.setIfInBounds_toArray, List.set_cons_zero, List.set_cons_succ]
      refine takeq (i := 15) 28 (v := ?v7) rfl rfl (by kernel_rfl) (by kernel_rfl) (by kernel_rfl) (fun _ _ _ h => h) (Or.inl ⟨by rfl, ?y7⟩) hHeld ?r7
      case y7 => (intro w' hSw; skip; go_simp; (try with_reducible rfl))
      try simp only [Act.put, List.setIfInBounds_toArray, List.set_cons_zero, List.set_cons_succ]
      refine wpAnyH_done (by kernel_rfl) ?_ _
      have HBq : Hid (Below w.heap.size w w2) := bl_trans HB.out HB2.out
      clear hHeld HF
      go_wp2_with fail
      go_ret
      exact Tells.no HNO.out HBq.out
    | true =>
      have HNM : Hid (nameOk (var k).b = true) := hq2.1 rfl
      clear hq2
      go_wp2_with fail
      refine hK.out _ _ ?_ (fun hHeld => ?_)
      · exact HB2.out
      clear hK K
      try simp only [Act.put, List.setIfInBounds_toArray, List.set_cons_zero, List.set_cons_succ]
      refine takeq (i := 5) 18 (v := ?v8) rfl rfl (by kernel_rfl) (by kernel_rfl) (by kernel_rfl) (fun _ _ _ h => h) (Or.inl ⟨by rfl, ?y8⟩) hHeld ?r8
      case y8 => (intro w' hSw; skip; go_simp; (try with_reducible rfl))
      try simp only [Act.put, List.setIfInBounds_toArray, List.set_cons_zero, List.set_cons_succ]
      refine takeq (i := 6) 19 (v := ?v9) rfl rfl (by kernel_rfl) (by kernel_rfl) (by kernel_rfl) (fun _ _ _ h => h) (Or.inl ⟨by rfl, ?y9⟩) hHeld ?r9
      case y9 => (intro w' hSw; skip; go_simp; (try with_reducible rfl))
      try simp only [Act.put, List.setIfInBounds_toArray, List.set_cons_zero, List.set_cons_succ]
      refine takeq (i := 7) 20 (v := ?v10) rfl rfl (by kernel_rfl) (by kernel_rfl) (by kernel_rfl) (fun _ _ _ h => h) (Or.inl ⟨by rfl, ?y10⟩) hHeld ?r10
      case y10 => (intro w' hSw; skip; go_simp; (try with_reducible rfl))
      try simp only [Act.put, List.setIfInBounds_toArray, List.set_cons_zero, List.set_cons_succ]
      refine takeq (i := 8) 21 (v := ?v11) rfl rfl (by kernel_rfl) (by kernel_rfl) (by kernel_rfl) (fun _ _ _ h => h) (Or.inl ⟨by rfl, ?y11⟩) hHeld ?r11
      case y11 => (intro w' hSw; skip; go_simp; (try with_reducible rfl))
      try simp only [Act.put, List.setIfInBounds_toArray, List.set_cons_zero, List.set_cons_succ]
      refine takeq (i := 9) 22 (v := .slice (some ⟨b, off, none⟩) k cap) rfl rfl (by kernel_rfl) (by kernel_rfl) (by kernel_rfl) (fun _ _ _ h => h) (Or.inl ⟨by rfl, ?y12⟩) hHeld ?r12
      case y12 => (intro w' hSw; go_simp; (try with_reducible rfl))
      try simp only [Act.put, List.setIfInBounds_toArray, List.set_cons_zero, List.set_cons_succ]
      refine takeq (i := 10) 23 (v := ?v13) rfl rfl (by kernel_rfl) (by kernel_rfl) (by kernel_rfl) (fun _ _ _ h => h) (Or.inl ⟨by rfl, ?y13⟩) hHeld ?r13
      case y13 => (intro w' hSw; skip; go_simp; (try with_reducible rfl))
      try simp only [Act.put, List.setIfInBounds_toArray, List.set_cons_zero, List.set_cons_succ]
      refine takeq (i := 11) 24 (v := ?v14) rfl rfl (by kernel_rfl) (by kernel_rfl) (by kernel_rfl) (fun _ _ _ h => h) (Or.inl ⟨by rfl, ?y14⟩) hHeld ?r14
      case y14 => (intro w' hSw; skip; go_simp; (try with_reducible rfl))
      try simp only [Act.put, List.setIfInBounds_toArray, List.set_cons_zero, List.set_cons_succ]
      refine takeq (i := 12) 25 (v := ?v15) rfl rfl (by kernel_rfl) (by kernel_rfl) (by kernel_rfl) (fun _ _ _ h => h) (Or.inl ⟨by rfl, ?y15⟩) hHeld ?r15
      case y15 => (intro w' hSw; skip; go_simp; (try with_reducible rfl))
      try simp only [Act.put, List.setIfInBounds_toArray, List.set_cons_zero, List.set_cons_succ]
      refine takeq (i := 13) 26 (v := ?v16) rfl rfl (by kernel_rfl) (by kernel_rfl) (by kernel_rfl) (fun _ _ _ h => h) (Or.inl ⟨by rfl, ?y16⟩) hHeld ?r16
      case y16 => (intro w' hSw; have q1 := HF.out w' hSw; go_simp; (try with_reducible rfl))
      try simp only [Act.put, List.setIfInBounds_toArray, List.set_cons_zero, List.set_cons_succ]
      refine wpAnyH_ready (rs := [14]) (by kernel_rfl) (by simp) ?_
      refine AllReadyH.cons rfl (fun K hK => ?_) AllReadyH.nil
      go_simp
      refine (HZ2.out k hlk w2 (bl_trans HB.out HB2.out)).mono ?_
      rintro e w3 ⟨q3, rfl, hq3, hb3⟩
      have HB3 : Hid (Below wr.heap.size wr w3) := bl_trans HB2.out hb3
      have HBq : Hid (Below w.heap.size w w3) := bl_trans HB.out HB3.out
      clear hb3
      cases q3 with
      | true =>
        have HNO : Hid (¬ varsOkL n var) := fun hh => by obtain ⟨j, hj, e⟩ := hq3.1 rfl; exact (hh.2 k hlk).2 j hj e
        clear hq3
        go_wp2_with fail
        refine hK.out _ _ ?_ (fun hHeld => ?_)
        · exact HB3.out
        clear hK K
        try simp only [Act.put, List.setIfInBounds_toArray, List.set_cons_zero, List.set_cons_succ]
        refine takeq (i := 15) 28 (v := ?v17) rfl rfl (by kernel_rfl) (by kernel_rfl) (by kernel_rfl) (fun _ _ _ h => h) (Or.inl ⟨by rfl, ?y17⟩) hHeld ?r17
        case y17 => (intro w' hSw; skip; go_simp; (try with_reducible rfl))
        try simp only [Act.put, List.setIfInBounds_toArray, List.set_cons_zero, List.set_cons_succ]
        refine wpAnyH_done (by kernel_rfl) ?_ _
        clear hHeld HF
        go_wp2_with fail
        go_ret
        exact Tells.no HNO.out HBq.out
      | false =>
        have HVK : Hid (varOk var k) := ⟨HNM.out, fun j hj e => by have h := hq3.2 ⟨j, hj, e⟩; cases h⟩
        clear hq3
        go_wp2_with fail
        refine hK.out _ _ ?_ (fun hHeld => ?_)
        · exact HB3.out
        clear hK K
        try simp only [Act.put, List.setIfInBounds_toArray, List.set_cons_zero, List.set_cons_succ]
        refine takeq (i := 15) 28 (v := ?v18) rfl rfl (by kernel_rfl) (by kernel_rfl) (by kernel_rfl) (fun _ _ _ h => h) (Or.inl ⟨by rfl, ?y18⟩) hHeld ?r18
        case y18 => (intro w' hSw; skip; go_simp; (try with_reducible rfl))
        try simp only [Act.put, List.setIfInBounds_toArray, List.set_cons_zero, List.set_cons_succ]
        refine wpAnyH_done (by kernel_rfl) ?_ _
        clear hHeld HF
        go_wp2_with fail
        go_roundw
        case rel =>
          refine ⟨k + 1, by omega, by go_num, fun j hj => ?_, HBq⟩
          by_cases e : j = k
          · subst e
            exact HVK.out
          · exact HOK.out j (by omega)
        case measure => simp [intOf]; omega
end Go.Proofs.YtganfiajhokkmaaGreatDoor
