/- Texts put together: LxD -/
import Derived.Test.YtoclingolfdfeaaGreatDoorMk18
/- LxD -/
namespace Go.Proofs.YtoclingolfdfeaaGreatDoor
open Go.RowKit Go.Deep
set_option maxRecDepth 100000

set_option maxHeartbeats 16000000 in
theorem l2number_minus (b0 off0 len cap : Nat) (raw : List Int) (w : World) (hB : Bs w (some ⟨b0, off0, none⟩) len raw) (h0 : ¬ len = 0) (h45 : raw[0]? = some 45) :
    Calls Tryz.prog 123 #[.slice (some ⟨b0, off0, none⟩) len cap] w (NumbRes raw w) := by
  have HB : Hid (Bs w (some ⟨b0, off0, none⟩) len raw) := hB
  have hlen := hB.1
  have hl2 := hB.2.1
  have hz0 : (0 : Int) < (len : Int) := by omega
  obtain ⟨b0', off0', y, hab0, hy, hdy, y0, y1⟩ := hB.byte (show 0 < len by omega)
  cases hab0
  have hy1 : (w.alloc (.cells #[.int .i64 0, .slice none 0 0, .int .i64 0, .int .i64 0] 24)).cell? ⟨b0, off0, none⟩ = some (.int .u8 y) := ((bl_a (w := w) _).cell (p := ⟨b0, off0, none⟩) (cell_ltC hy)).trans hy
  have hdy' : raw = y :: raw.drop 1 := by simpa using hdy
  have hy45 : y = 45 := by
    rw [hdy'] at h45
    simpa using h45
  have h45b : (y == 45) = true := by simp [hy45]
  have HBAD : Hid (numF (raw.drop 1) 0 0 false = none → numOf raw = none) := by
    intro h
    rw [hdy', hy45]
    exact numOf_minus.1 h
  have HPO : Hid (∀ m ss : Nat, numF (raw.drop 1) 0 0 false = some (m, ss) → (len = 1 → numOf raw = none) ∧ (numOk (-(m : Int)) ss = true → showL 3 (-(m : Int)) ss [] = raw → numOf raw = some (-(m : Int), (ss : Int))) ∧ ((numOk (-(m : Int)) ss = false ∨ showL 3 (-(m : Int)) ss [] ≠ raw) → numOf raw = none)) := by
    intro m ss h
    refine ⟨fun hl => ?_, fun h1 h2 => numOf_some.2 ⟨h1, h2⟩, fun hx => ?_⟩
    · rcases numOf_minus.2 m ss h with ⟨_, hne, _⟩ | ⟨h1, _⟩
      · exact absurd (List.eq_nil_of_length_eq_zero (by rw [List.length_drop]; omega)) hne
      · rw [hdy', hy45]
        exact h1
    · rcases numOf_minus.2 m ss h with ⟨_, _, h3, h4⟩ | ⟨h1, _⟩
      · rcases hx with hx | hx
        · rw [h3] at hx
          cases hx
        · exact absurd (by rw [hdy', hy45]; exact h4) hx
      · rw [hdy', hy45]
        exact h1
  clear hB h0 hlen hdy hdy' h45 hy hy45
  go_enter Tryz.func123, Tryz.ntmps123
  go_wp2_with fail
  clear hy1 h45b y0 y1
  go_loop [5, 6, 7, 8] (fun nv sv pv iv => ∃ (i m ss : Nat) (p : Bool), i ≤ len ∧ nv = .int .i64 m ∧ sv = .int .i64 ss ∧ pv = .bool p ∧ iv = .int .i64 i ∧ m ≤ 10000000000000009 ∧ ss ≤ i ∧ Hid (numF (raw.drop i) m ss p = numF (raw.drop 1) 0 0 false)) (fun _ _ _ iv => len - (intOf iv).toNat)
  case atStart => exact ⟨1, 0, 0, false, by omega, rfl, rfl, rfl, rfl, by omega, by omega, rfl⟩
  case round =>
    obtain ⟨i, m, ss, p, hi, rfl, rfl, rfl, rfl, hm, hss, HR⟩ := hrel
    by_cases hlt : i < len
    · have hltz : (i : Int) < (len : Int) := by omega
      obtain ⟨b, off, x, hab, hx, hd, x0, x1⟩ := HB.out.byte hlt
      cases hab
      have HD : Hid (raw.drop i = x :: raw.drop (i + 1)) := hd
      have hx1 : (w.alloc (.cells #[.int .i64 0, .slice none 0 0, .int .i64 0, .int .i64 0] 24)).cell? ⟨b0, off0 + i, none⟩ = some (.int .u8 x) := ((bl_a (w := w) _).cell (p := ⟨b0, off0 + i, none⟩) (cell_ltC hx)).trans hx
      clear hd hx
      by_cases h46 : x = 46
      · subst h46
        cases p with
        | false =>
          have HR2 : Hid (numF (raw.drop (i + 1)) m ss true = numF (raw.drop 1) 0 0 false) := by
            have h := HR.out
            rw [HD.out, numF_dot] at h
            exact h
          clear HR HD
          go_wp2_with fail
          go_round
          case rel => exact ⟨i + 1, m, ss, true, by omega, rfl, rfl, rfl, by go_num, hm, by omega, HR2⟩
          case measure => simp [intOf]; omega
        | true =>
          have HNO : Hid (numOf raw = none) := HBAD.out (by rw [← HR.out, HD.out]; exact numF_bad (fun _ => rfl) (.inl (by omega)))
          clear HR HD
          go_wp2_with fail
          refine bodyPost_ret (v := .tuple #[.agg #[.int .i64 0, .slice none 0 0, .int .i64 0, .int .i64 0], .bool false]) (by simp [results, Tryz.results123, go_sem]) rfl ⟨.inr ⟨HNO.out, rfl⟩, ?_⟩
          repeat (first | exact bl_a _ | refine bl_set ?_ (Nat.le_refl _) _)
      · have h46b : (x == 46) = false := by simp [h46]
        by_cases h48 : 48 ≤ x
        · have h48n : ¬ x < 48 := by omega
          by_cases h57 : x ≤ 57
          · have h57n : ¬ 57 < x := by omega
            by_cases hmm : m ≤ 1000000000000000
            · have hmz : ¬ (1000000000000000 : Int) < (m : Int) := by omega
              have HR2 : Hid (numF (raw.drop (i + 1)) (m * 10 + (x - 48).toNat) (if p = true then ss + 1 else ss) p = numF (raw.drop 1) 0 0 false) := by
                have h := HR.out
                rw [HD.out, numF_more h48 h57 hmm] at h
                exact h
              have hta := toNat_add (n := m) h48
              have htm : m * 10 + (x - 48).toNat ≤ 10000000000000009 := by omega
              obtain ⟨m', hm'⟩ : ∃ m', m * 10 + (x - 48).toNat = m' := ⟨_, rfl⟩
              rw [hm'] at HR2 hta htm
              clear HR HD hm'
              cases p with
              | false =>
                go_wp2_with fail
                rw [← hta]
                go_round
                case rel => exact ⟨i + 1, m', ss, false, by omega, rfl, rfl, rfl, by go_num, htm, by omega, HR2⟩
                case measure => simp [intOf]; omega
              | true =>
                go_wp2_with fail
                rw [← hta]
                go_round
                case rel => exact ⟨i + 1, m', ss + 1, true, by omega, rfl, by go_num, rfl, by go_num, htm, by omega, HR2⟩
                case measure => simp [intOf]; omega
            · have hmz : (1000000000000000 : Int) < (m : Int) := by omega
              have HNO : Hid (numOf raw = none) := HBAD.out (by rw [← HR.out, HD.out]; exact numF_bad (fun h => absurd h h46) (.inr (.inr (by omega))))
              clear HR HD
              go_wp2_with fail
              refine bodyPost_ret (v := .tuple #[.agg #[.int .i64 0, .slice none 0 0, .int .i64 0, .int .i64 0], .bool false]) (by simp [results, Tryz.results123, go_sem]) rfl ⟨.inr ⟨HNO.out, rfl⟩, ?_⟩
              repeat (first | exact bl_a _ | refine bl_set ?_ (Nat.le_refl _) _)
          · have h57n : 57 < x := by omega
            have HNO : Hid (numOf raw = none) := HBAD.out (by rw [← HR.out, HD.out]; exact numF_bad (fun h => absurd h h46) (.inr (.inl h57n)))
            clear HR HD
            go_wp2_with fail
            refine bodyPost_ret (v := .tuple #[.agg #[.int .i64 0, .slice none 0 0, .int .i64 0, .int .i64 0], .bool false]) (by simp [results, Tryz.results123, go_sem]) rfl ⟨.inr ⟨HNO.out, rfl⟩, ?_⟩
            repeat (first | exact bl_a _ | refine bl_set ?_ (Nat.le_refl _) _)
        · have h48n : x < 48 := by omega
          have HNO : Hid (numOf raw = none) := HBAD.out (by rw [← HR.out, HD.out]; exact numF_bad (fun h => absurd h h46) (.inl h48n))
          clear HR HD
          go_wp2_with fail
          refine bodyPost_ret (v := .tuple #[.agg #[.int .i64 0, .slice none 0 0, .int .i64 0, .int .i64 0], .bool false]) (by simp [results, Tryz.results123, go_sem]) rfl ⟨.inr ⟨HNO.out, rfl⟩, ?_⟩
          repeat (first | exact bl_a _ | refine bl_set ?_ (Nat.le_refl _) _)
    · have hltz : ¬ (i : Int) < (len : Int) := by omega
      have HSO : Hid (numF (raw.drop 1) 0 0 false = some (m, ss)) := by
        have h := HR.out
        rw [List.drop_eq_nil_of_le (by have := HB.out.1; omega), numF] at h
        exact h.symm
      clear HR HBAD
      have hpo := HPO.out m ss HSO.out
      obtain ⟨wt, hwt⟩ : ∃ wt, wt = ((w.alloc (.cells #[.int .i64 0, .slice none 0 0, .int .i64 0, .int .i64 0] 24)).alloc (.cells #[.int .i64 3, .slice none 0 0, .int .i64 (-(m : Int)), .int .i64 ss] 24)) := ⟨_, rfl⟩
      have HRB : Hid (Own4 wt w.heap.size (.int .i64 0) (.slice none 0 0) (.int .i64 0) (.int .i64 0)) := by
        rw [hwt]
        exact (Own4.at w w.heap.size _ _ _ _ 24 rfl).below (bl_a _)
      obtain ⟨tl, t0, t1, t2, t3⟩ : At4 wt (w.heap.size + 1) (.int .i64 3) (.slice none 0 0) (.int .i64 (-(m : Int))) (.int .i64 ss) := by
        rw [hwt]
        exact At4.at _ _ _ _ _ _ _ (by simp)
      have HBW : Hid (Below w.heap.size w wt) := by
        rw [hwt]
        exact bl_alloc (bl_a _) _
      have HBT : Hid (Bs wt (some ⟨b0, off0, none⟩) len raw) := HB.out.below HBW.out
      have hsw : w.heap.size ≤ wt.heap.size := HBW.out.size
      obtain ⟨q, hq⟩ : ∃ q, numOk (-(m : Int)) ss = q := ⟨_, rfl⟩
      have TOK : Hid (∀ W, Below wt.heap.size wt W → Calls Tryz.prog 8 #[.agg #[.int .i64 3, .slice none 0 0, .int .i64 (-(m : Int)), .int .i64 ss]] W fun e w' => e = .returned (.bool q) ∧ Below wt.heap.size wt w') := by
        intro W hW
        refine (specTermOk_any 3 (-(m : Int)) ss none 0 0 [] W ⟨rfl, by omega, by simp, .inl rfl⟩ (by omega) (by omega)).mono ?_
        rintro e w' ⟨rfl, o, rfl⟩
        refine ⟨?_, hW.trans ((bl_a (w := W) o).mono hW.size)⟩
        rw [show termOk 3 [] (-(m : Int)) ss = numOk (-(m : Int)) ss by simp [termOk], hq]
      by_cases hlk : len = 1
      · have hkz : ((len : Int) == 1) = true := by simp; omega
        have HNO : Hid (numOf raw = none) := (hpo.1 hlk)
        clear hpo hlk TOK
        go_wp2_with fail
        rw [← hwt]
        clear hwt
        skip
        refine wp_region_held_drew (S := fun w' => Below wt.heap.size wt w') (by kernel_rfl) ?_ (fun hHeld => ?_)
        · exact Below.drew (Below.refl _ _)
        refine take_at (i := 0) 71 (v := ?v1) rfl rfl (by kernel_rfl) (by kernel_rfl) (by kernel_rfl) (fun _ _ _ h => h) (Or.inl ⟨by rfl, ?y1⟩) hHeld ?r1
        case y1 => (intro w' hSw; skip; go_simp; (try with_reducible rfl))
        try simp only [Act.put, List.setIfInBounds_toArray, List.set_cons_zero, List.set_cons_succ]
        refine take_at (i := 1) 72 (v := ?v2) rfl rfl (by kernel_rfl) (by kernel_rfl) (by kernel_rfl) (fun _ _ _ h => h) (Or.inl ⟨by rfl, ?y2⟩) hHeld ?r2
        case y2 => (intro w' hSw; skip; go_simp; (try with_reducible rfl))
        try simp only [Act.put, List.setIfInBounds_toArray, List.set_cons_zero, List.set_cons_succ]
        refine take_at (i := 2) 73 (v := ?v3) rfl rfl (by kernel_rfl) (by kernel_rfl) (by kernel_rfl) (fun _ _ _ h => h) (Or.inl ⟨by rfl, ?y3⟩) hHeld ?r3
        case y3 => (intro w' hSw; skip; go_simp; (try with_reducible rfl))
        try simp only [Act.put, List.setIfInBounds_toArray, List.set_cons_zero, List.set_cons_succ]
        refine take_at (i := 3) 74 (v := (.bool true)) rfl rfl (by kernel_rfl) (by kernel_rfl) (by kernel_rfl) (fun _ _ _ h => h) (Or.inl ⟨by rfl, ?y4⟩) hHeld ?r4
        case y4 => (intro w' hSw; skip; go_simp; (try with_reducible rfl))
        try simp only [Act.put, List.setIfInBounds_toArray, List.set_cons_zero, List.set_cons_succ]
        refine take_at (i := 4) 75 (v := ?v5) rfl rfl (by kernel_rfl) (by kernel_rfl) (by kernel_rfl) (fun _ _ _ h => h) (Or.inl ⟨by rfl, ?y5⟩) hHeld ?r5
        case y5 => (intro w' hSw; skip; go_simp; (try with_reducible rfl))
        try simp only [Act.put, List.setIfInBounds_toArray, List.set_cons_zero, List.set_cons_succ]
        refine take_at (i := 5) 76 (v := undef) rfl rfl (by kernel_rfl) (by kernel_rfl) (by kernel_rfl) (fun _ _ _ h => h) (Or.inr ⟨by rfl, rfl⟩) hHeld ?_
        try simp only [Act.put, List.setIfInBounds_toArray, List.set_cons_zero, List.set_cons_succ]
        refine take_at (i := 6) 77 (v := undef) rfl rfl (by kernel_rfl) (by kernel_rfl) (by kernel_rfl) (fun _ _ _ h => h) (Or.inr ⟨by rfl, rfl⟩) hHeld ?_
        try simp only [Act.put, List.setIfInBounds_toArray, List.set_cons_zero, List.set_cons_succ]
        refine take_at (i := 7) 78 (v := undef) rfl rfl (by kernel_rfl) (by kernel_rfl) (by kernel_rfl) (fun _ _ _ h => h) (Or.inr ⟨by rfl, rfl⟩) hHeld ?_
        try simp only [Act.put, List.setIfInBounds_toArray, List.set_cons_zero, List.set_cons_succ]
        refine take_at (i := 8) 79 (v := ?v6) rfl rfl (by kernel_rfl) (by kernel_rfl) (by kernel_rfl) (fun _ _ _ h => h) (Or.inl ⟨by rfl, ?y6⟩) hHeld ?r6
        case y6 => (intro w' hSw; skip; go_simp; (try with_reducible rfl))
        try simp only [Act.put, List.setIfInBounds_toArray, List.set_cons_zero, List.set_cons_succ]
        refine take_at (i := 9) 80 (v := ?v7) rfl rfl (by kernel_rfl) (by kernel_rfl) (by kernel_rfl) (fun _ _ _ h => h) (Or.inl ⟨by rfl, ?y7⟩) hHeld ?r7
        case y7 => (intro w' hSw; skip; go_simp; (try with_reducible rfl))
        try simp only [Act.put, List.setIfInBounds_toArray, List.set_cons_zero, List.set_cons_succ]
        refine take_at (i := 10) 81 (v := undef) rfl rfl (by kernel_rfl) (by kernel_rfl) (by kernel_rfl) (fun _ _ _ h => h) (Or.inr ⟨by rfl, rfl⟩) hHeld ?_
        try simp only [Act.put, List.setIfInBounds_toArray, List.set_cons_zero, List.set_cons_succ]
        refine take_at (i := 11) 82 (v := undef) rfl rfl (by kernel_rfl) (by kernel_rfl) (by kernel_rfl) (fun _ _ _ h => h) (Or.inr ⟨by rfl, rfl⟩) hHeld ?_
        try simp only [Act.put, List.setIfInBounds_toArray, List.set_cons_zero, List.set_cons_succ]
        refine take_at (i := 12) 83 (v := undef) rfl rfl (by kernel_rfl) (by kernel_rfl) (by kernel_rfl) (fun _ _ _ h => h) (Or.inr ⟨by rfl, rfl⟩) hHeld ?_
        try simp only [Act.put, List.setIfInBounds_toArray, List.set_cons_zero, List.set_cons_succ]
        refine take_at (i := 13) 84 (v := undef) rfl rfl (by kernel_rfl) (by kernel_rfl) (by kernel_rfl) (fun _ _ _ h => h) (Or.inr ⟨by rfl, rfl⟩) hHeld ?_
        try simp only [Act.put, List.setIfInBounds_toArray, List.set_cons_zero, List.set_cons_succ]
        refine take_at (i := 14) 85 (v := undef) rfl rfl (by kernel_rfl) (by kernel_rfl) (by kernel_rfl) (fun _ _ _ h => h) (Or.inr ⟨by rfl, rfl⟩) hHeld ?_
        try simp only [Act.put, List.setIfInBounds_toArray, List.set_cons_zero, List.set_cons_succ]
        refine take_at (i := 15) 86 (v := undef) rfl rfl (by kernel_rfl) (by kernel_rfl) (by kernel_rfl) (fun _ _ _ h => h) (Or.inr ⟨by rfl, rfl⟩) hHeld ?_
        try simp only [Act.put, List.setIfInBounds_toArray, List.set_cons_zero, List.set_cons_succ]
        refine take_at (i := 16) 87 (v := ?v8) rfl rfl (by kernel_rfl) (by kernel_rfl) (by kernel_rfl) (fun _ _ _ h => h) (Or.inl ⟨by rfl, ?y8⟩) hHeld ?r8
        case y8 => (intro w' hSw; skip; go_simp; (try with_reducible rfl))
        try simp only [Act.put, List.setIfInBounds_toArray, List.set_cons_zero, List.set_cons_succ]
        refine wpAnyH_done (by kernel_rfl) ?_ _
        clear hHeld
        have HRZ := HRB.out.below (Below.drew (Below.refl wt.heap.size wt))
        obtain ⟨⟨o0, o1, o2, o3, o4⟩, f0, f1, f2, f3⟩ := id HRZ
        have HBZ : Hid (Below w.heap.size w wt.drew) := HBW.out.trans ((Below.drew (Below.refl wt.heap.size wt)).mono (by omega))
        clear HRZ HRB HBW
        generalize wt.drew = wd at *
        go_wp2_with fail
        refine bodyPost_ret (v := .tuple #[.agg #[.int .i64 0, .slice none 0 0, .int .i64 0, .int .i64 0], .bool false]) (by simp [results, Tryz.results123, go_sem, *]) rfl ⟨.inr ⟨HNO.out, rfl⟩, ?_⟩
        exact bl_set (bl_set (bl_set (bl_set HBZ.out (Nat.le_refl _) _) (Nat.le_refl _) _) (Nat.le_refl _) _) (Nat.le_refl _) _
      · have hkz : ((len : Int) == 1) = false := by simp; omega
        cases q with
        | false =>
          have HNO : Hid (numOf raw = none) := hpo.2.2 (.inl hq)
          clear hpo hlk hq
          go_wp2_with fail
          rw [← hwt]
          clear hwt
          skip
          refine wp_region_held_drew (S := fun w' => Below wt.heap.size wt w') (by kernel_rfl) ?_ (fun hHeld => ?_)
          · exact Below.drew (Below.refl _ _)
          refine take_at (i := 0) 71 (v := ?v9) rfl rfl (by kernel_rfl) (by kernel_rfl) (by kernel_rfl) (fun _ _ _ h => h) (Or.inl ⟨by rfl, ?y9⟩) hHeld ?r9
          case y9 => (intro w' hSw; skip; go_simp; (try with_reducible rfl))
          try simp only [Act.put, List.setIfInBounds_toArray, List.set_cons_zero, List.set_cons_succ]
          refine take_at (i := 1) 72 (v := ?v10) rfl rfl (by kernel_rfl) (by kernel_rfl) (by kernel_rfl) (fun _ _ _ h => h) (Or.inl ⟨by rfl, ?y10⟩) hHeld ?r10
          case y10 => (intro w' hSw; skip; go_simp; (try with_reducible rfl))
          try simp only [Act.put, List.setIfInBounds_toArray, List.set_cons_zero, List.set_cons_succ]
          refine take_at (i := 2) 73 (v := ?v11) rfl rfl (by kernel_rfl) (by kernel_rfl) (by kernel_rfl) (fun _ _ _ h => h) (Or.inl ⟨by rfl, ?y11⟩) hHeld ?r11
          case y11 => (intro w' hSw; skip; go_simp; (try with_reducible rfl))
          try simp only [Act.put, List.setIfInBounds_toArray, List.set_cons_zero, List.set_cons_succ]
          refine take_at (i := 3) 74 (v := (.bool false)) rfl rfl (by kernel_rfl) (by kernel_rfl) (by kernel_rfl) (fun _ _ _ h => h) (Or.inl ⟨by rfl, ?y12⟩) hHeld ?r12
          case y12 => (intro w' hSw; skip; go_simp; (try with_reducible rfl))
          try simp only [Act.put, List.setIfInBounds_toArray, List.set_cons_zero, List.set_cons_succ]
          refine take_at (i := 4) 75 (v := ?v13) rfl rfl (by kernel_rfl) (by kernel_rfl) (by kernel_rfl) (fun _ _ _ h => h) (Or.inl ⟨by rfl, ?y13⟩) hHeld ?r13
          case y13 => (intro w' hSw; skip; go_simp; (try with_reducible rfl))
          try simp only [Act.put, List.setIfInBounds_toArray, List.set_cons_zero, List.set_cons_succ]
          refine take_at (i := 5) 76 (v := ?v14) rfl rfl (by kernel_rfl) (by kernel_rfl) (by kernel_rfl) (fun _ _ _ h => h) (Or.inl ⟨by rfl, ?y14⟩) hHeld ?r14
          case y14 => (intro w' hSw; have q0 := (hSw.cell (p := ⟨w.heap.size + 1, 0, none⟩) (by show w.heap.size + 1 < _; omega)).trans t0; have q1 := (hSw.cell (p := ⟨w.heap.size + 1, 1, none⟩) (by show w.heap.size + 1 < _; omega)).trans t1; have q2 := (hSw.cell (p := ⟨w.heap.size + 1, 2, none⟩) (by show w.heap.size + 1 < _; omega)).trans t2; have q3 := (hSw.cell (p := ⟨w.heap.size + 1, 3, none⟩) (by show w.heap.size + 1 < _; omega)).trans t3; go_simp; (try with_reducible rfl))
          try simp only [Act.put, List.setIfInBounds_toArray, List.set_cons_zero, List.set_cons_succ]
          refine wpAnyH_ready (rs := [6]) (by kernel_rfl) (by simp) ?_
          refine AllReadyH.cons rfl (fun K hK => ?_) AllReadyH.nil
          go_simp
          refine (TOK.out _ (Below.drew (Below.refl _ _))).mono ?_
          rintro e wu ⟨rfl, hbu⟩
          refine hK.out _ _ ?_ (fun hHeld => ?_)
          · exact hbu
          clear hK K
          try simp only [Act.put, List.setIfInBounds_toArray, List.set_cons_zero, List.set_cons_succ]
          have HBu : Hid (Below wt.heap.size wt wu) := hbu
          clear hbu
          refine take_at (i := 7) 78 (v := ?v15) rfl rfl (by kernel_rfl) (by kernel_rfl) (by kernel_rfl) (fun _ _ _ h => h) (Or.inl ⟨by rfl, ?y15⟩) hHeld ?r15
          case y15 => (intro w' hSw; skip; go_simp; (try with_reducible rfl))
          try simp only [Act.put, List.setIfInBounds_toArray, List.set_cons_zero, List.set_cons_succ]
          refine take_at (i := 8) 79 (v := ?v16) rfl rfl (by kernel_rfl) (by kernel_rfl) (by kernel_rfl) (fun _ _ _ h => h) (Or.inl ⟨by rfl, ?y16⟩) hHeld ?r16
          case y16 => (intro w' hSw; skip; go_simp; (try with_reducible rfl))
          try simp only [Act.put, List.setIfInBounds_toArray, List.set_cons_zero, List.set_cons_succ]
          refine take_at (i := 9) 80 (v := ?v17) rfl rfl (by kernel_rfl) (by kernel_rfl) (by kernel_rfl) (fun _ _ _ h => h) (Or.inl ⟨by rfl, ?y17⟩) hHeld ?r17
          case y17 => (intro w' hSw; skip; go_simp; (try with_reducible rfl))
          try simp only [Act.put, List.setIfInBounds_toArray, List.set_cons_zero, List.set_cons_succ]
          refine take_at (i := 10) 81 (v := undef) rfl rfl (by kernel_rfl) (by kernel_rfl) (by kernel_rfl) (fun _ _ _ h => h) (Or.inr ⟨by rfl, rfl⟩) hHeld ?_
          try simp only [Act.put, List.setIfInBounds_toArray, List.set_cons_zero, List.set_cons_succ]
          refine take_at (i := 11) 82 (v := undef) rfl rfl (by kernel_rfl) (by kernel_rfl) (by kernel_rfl) (fun _ _ _ h => h) (Or.inr ⟨by rfl, rfl⟩) hHeld ?_
          try simp only [Act.put, List.setIfInBounds_toArray, List.set_cons_zero, List.set_cons_succ]
          refine take_at (i := 12) 83 (v := undef) rfl rfl (by kernel_rfl) (by kernel_rfl) (by kernel_rfl) (fun _ _ _ h => h) (Or.inr ⟨by rfl, rfl⟩) hHeld ?_
          try simp only [Act.put, List.setIfInBounds_toArray, List.set_cons_zero, List.set_cons_succ]
          refine take_at (i := 13) 84 (v := undef) rfl rfl (by kernel_rfl) (by kernel_rfl) (by kernel_rfl) (fun _ _ _ h => h) (Or.inr ⟨by rfl, rfl⟩) hHeld ?_
          try simp only [Act.put, List.setIfInBounds_toArray, List.set_cons_zero, List.set_cons_succ]
          refine take_at (i := 14) 85 (v := undef) rfl rfl (by kernel_rfl) (by kernel_rfl) (by kernel_rfl) (fun _ _ _ h => h) (Or.inr ⟨by rfl, rfl⟩) hHeld ?_
          try simp only [Act.put, List.setIfInBounds_toArray, List.set_cons_zero, List.set_cons_succ]
          refine take_at (i := 15) 86 (v := undef) rfl rfl (by kernel_rfl) (by kernel_rfl) (by kernel_rfl) (fun _ _ _ h => h) (Or.inr ⟨by rfl, rfl⟩) hHeld ?_
          try simp only [Act.put, List.setIfInBounds_toArray, List.set_cons_zero, List.set_cons_succ]
          refine take_at (i := 16) 87 (v := ?v18) rfl rfl (by kernel_rfl) (by kernel_rfl) (by kernel_rfl) (fun _ _ _ h => h) (Or.inl ⟨by rfl, ?y18⟩) hHeld ?r18
          case y18 => (intro w' hSw; skip; go_simp; (try with_reducible rfl))
          try simp only [Act.put, List.setIfInBounds_toArray, List.set_cons_zero, List.set_cons_succ]
          refine wpAnyH_done (by kernel_rfl) ?_ _
          clear hHeld
          have HRZ := HRB.out.below HBu.out
          obtain ⟨⟨o0, o1, o2, o3, o4⟩, f0, f1, f2, f3⟩ := id HRZ
          have HBZ : Hid (Below w.heap.size w wu) := HBW.out.trans (HBu.out.mono (by omega))
          clear HRZ HRB HBW
          go_wp2_with fail
          refine bodyPost_ret (v := .tuple #[.agg #[.int .i64 0, .slice none 0 0, .int .i64 0, .int .i64 0], .bool false]) (by simp [results, Tryz.results123, go_sem, *]) rfl ⟨.inr ⟨HNO.out, rfl⟩, ?_⟩
          exact bl_set (bl_set (bl_set (bl_set HBZ.out (Nat.le_refl _) _) (Nat.le_refl _) _) (Nat.le_refl _) _) (Nat.le_refl _) _
        | true =>
          obtain ⟨L, hL⟩ : ∃ L, showL 3 (-(m : Int)) ss [] = L := ⟨_, rfl⟩
          have hLl : L.length ≤ 64 := by
            rw [← hL]
            exact (showL_len (k := 3) (bs := []) (by simpa [termOk] using hq)).2
          have HBYL : Hid (Byt L) := by
            show Byt L
            rw [← hL]
            exact showL_byt Byt.nil
          have NUM : Hid (∀ W, Calls Tryz.prog 121 #[.agg #[.int .i64 3, .slice none 0 0, .int .i64 (-(m : Int)), .int .i64 ss]] W (DigRes W L)) := by
            intro W
            have := l1number_any (-(m : Int)) ss none 0 0 W hq
            rwa [hL] at this
          by_cases hlr : L = raw
          · have HYES : Hid (numOf raw = some ((-(m : Int)), (ss : Int))) := hpo.2.1 hq (hL.trans hlr)
            subst hlr
            clear hpo hlk hq hL
            go_wp2_with fail
            rw [← hwt]
            clear hwt
            skip
            refine wp_region_held_drew (S := fun w' => Below wt.heap.size wt w') (by kernel_rfl) ?_ (fun hHeld => ?_)
            · exact Below.drew (Below.refl _ _)
            refine take_at (i := 0) 71 (v := ?v19) rfl rfl (by kernel_rfl) (by kernel_rfl) (by kernel_rfl) (fun _ _ _ h => h) (Or.inl ⟨by rfl, ?y19⟩) hHeld ?r19
            case y19 => (intro w' hSw; skip; go_simp; (try with_reducible rfl))
            try simp only [Act.put, List.setIfInBounds_toArray, List.set_cons_zero, List.set_cons_succ]
            refine take_at (i := 1) 72 (v := ?v20) rfl rfl (by kernel_rfl) (by kernel_rfl) (by kernel_rfl) (fun _ _ _ h => h) (Or.inl ⟨by rfl, ?y20⟩) hHeld ?r20
            case y20 => (intro w' hSw; skip; go_simp; (try with_reducible rfl))
            try simp only [Act.put, List.setIfInBounds_toArray, List.set_cons_zero, List.set_cons_succ]
            refine take_at (i := 2) 73 (v := ?v21) rfl rfl (by kernel_rfl) (by kernel_rfl) (by kernel_rfl) (fun _ _ _ h => h) (Or.inl ⟨by rfl, ?y21⟩) hHeld ?r21
            case y21 => (intro w' hSw; skip; go_simp; (try with_reducible rfl))
            try simp only [Act.put, List.setIfInBounds_toArray, List.set_cons_zero, List.set_cons_succ]
            refine take_at (i := 3) 74 (v := (.bool false)) rfl rfl (by kernel_rfl) (by kernel_rfl) (by kernel_rfl) (fun _ _ _ h => h) (Or.inl ⟨by rfl, ?y22⟩) hHeld ?r22
            case y22 => (intro w' hSw; skip; go_simp; (try with_reducible rfl))
            try simp only [Act.put, List.setIfInBounds_toArray, List.set_cons_zero, List.set_cons_succ]
            refine take_at (i := 4) 75 (v := ?v23) rfl rfl (by kernel_rfl) (by kernel_rfl) (by kernel_rfl) (fun _ _ _ h => h) (Or.inl ⟨by rfl, ?y23⟩) hHeld ?r23
            case y23 => (intro w' hSw; skip; go_simp; (try with_reducible rfl))
            try simp only [Act.put, List.setIfInBounds_toArray, List.set_cons_zero, List.set_cons_succ]
            refine take_at (i := 5) 76 (v := ?v24) rfl rfl (by kernel_rfl) (by kernel_rfl) (by kernel_rfl) (fun _ _ _ h => h) (Or.inl ⟨by rfl, ?y24⟩) hHeld ?r24
            case y24 => (intro w' hSw; have q0 := (hSw.cell (p := ⟨w.heap.size + 1, 0, none⟩) (by show w.heap.size + 1 < _; omega)).trans t0; have q1 := (hSw.cell (p := ⟨w.heap.size + 1, 1, none⟩) (by show w.heap.size + 1 < _; omega)).trans t1; have q2 := (hSw.cell (p := ⟨w.heap.size + 1, 2, none⟩) (by show w.heap.size + 1 < _; omega)).trans t2; have q3 := (hSw.cell (p := ⟨w.heap.size + 1, 3, none⟩) (by show w.heap.size + 1 < _; omega)).trans t3; go_simp; (try with_reducible rfl))
            try simp only [Act.put, List.setIfInBounds_toArray, List.set_cons_zero, List.set_cons_succ]
            refine wpAnyH_ready (rs := [6]) (by kernel_rfl) (by simp) ?_
            refine AllReadyH.cons rfl (fun K hK => ?_) AllReadyH.nil
            go_simp
            refine (TOK.out _ (Below.drew (Below.refl _ _))).mono ?_
            rintro e wu ⟨rfl, hbu⟩
            refine hK.out _ _ ?_ (fun hHeld => ?_)
            · exact hbu
            clear hK K
            try simp only [Act.put, List.setIfInBounds_toArray, List.set_cons_zero, List.set_cons_succ]
            have HBu : Hid (Below wt.heap.size wt wu) := hbu
            clear hbu
            refine take_at (i := 7) 78 (v := ?v25) rfl rfl (by kernel_rfl) (by kernel_rfl) (by kernel_rfl) (fun _ _ _ h => h) (Or.inl ⟨by rfl, ?y25⟩) hHeld ?r25
            case y25 => (intro w' hSw; skip; go_simp; (try with_reducible rfl))
            try simp only [Act.put, List.setIfInBounds_toArray, List.set_cons_zero, List.set_cons_succ]
            refine take_at (i := 8) 79 (v := ?v26) rfl rfl (by kernel_rfl) (by kernel_rfl) (by kernel_rfl) (fun _ _ _ h => h) (Or.inl ⟨by rfl, ?y26⟩) hHeld ?r26
            case y26 => (intro w' hSw; skip; go_simp; (try with_reducible rfl))
            try simp only [Act.put, List.setIfInBounds_toArray, List.set_cons_zero, List.set_cons_succ]
            refine take_at (i := 9) 80 (v := ?v27) rfl rfl (by kernel_rfl) (by kernel_rfl) (by kernel_rfl) (fun _ _ _ h => h) (Or.inl ⟨by rfl, ?y27⟩) hHeld ?r27
            case y27 => (intro w' hSw; skip; go_simp; (try with_reducible rfl))
            try simp only [Act.put, List.setIfInBounds_toArray, List.set_cons_zero, List.set_cons_succ]
            refine take_at (i := 10) 81 (v := ?v28) rfl rfl (by kernel_rfl) (by kernel_rfl) (by kernel_rfl) (fun _ _ _ h => h) (Or.inl ⟨by rfl, ?y28⟩) hHeld ?r28
            case y28 => (intro w' hSw; have q0 := (hSw.cell (p := ⟨w.heap.size + 1, 0, none⟩) (by show w.heap.size + 1 < _; omega)).trans t0; have q1 := (hSw.cell (p := ⟨w.heap.size + 1, 1, none⟩) (by show w.heap.size + 1 < _; omega)).trans t1; have q2 := (hSw.cell (p := ⟨w.heap.size + 1, 2, none⟩) (by show w.heap.size + 1 < _; omega)).trans t2; have q3 := (hSw.cell (p := ⟨w.heap.size + 1, 3, none⟩) (by show w.heap.size + 1 < _; omega)).trans t3; go_simp; (try with_reducible rfl))
            try simp only [Act.put, List.setIfInBounds_toArray, List.set_cons_zero, List.set_cons_succ]
            refine take_at (i := 13) 84 (v := ?v29) rfl rfl (by kernel_rfl) (by kernel_rfl) (by kernel_rfl) (fun _ _ _ h => h) (Or.inl ⟨by rfl, ?y29⟩) hHeld ?r29
            case y29 => (intro w' hSw; skip; go_simp; (try with_reducible rfl))
            try simp only [Act.put, List.setIfInBounds_toArray, List.set_cons_zero, List.set_cons_succ]
            refine take_at (i := 14) 85 (v := ?v30) rfl rfl (by kernel_rfl) (by kernel_rfl) (by kernel_rfl) (fun _ _ _ h => h) (Or.inl ⟨by rfl, ?y30⟩) hHeld ?r30
            case y30 => (intro w' hSw; have q5 := (HBT.out.below hSw).str (cap := cap); go_simp; (try with_reducible rfl))
            try simp only [Act.put, List.setIfInBounds_toArray, List.set_cons_zero, List.set_cons_succ]
            refine wpAnyH_ready (rs := [11]) (by kernel_rfl) (by simp) ?_
            refine AllReadyH.cons rfl (fun K hK => ?_) AllReadyH.nil
            go_simp
            refine (NUM.out _).mono ?_
            rintro e wv ⟨gv, cv, rfl, hRv, hbv⟩
            have HBv : Hid (Below wt.heap.size wt wv) := HBu.out.trans (hbv.mono HBu.out.size)
            have HTv : Hid (Bs wv (some ⟨gv, 0, none⟩) L.length L) := (hRv.nw HBYL.out (by omega)).bs
            clear hRv hbv
            refine hK.out _ _ ?_ (fun hHeld => ?_)
            · exact HBv.out
            clear hK K
            try simp only [Act.put, List.setIfInBounds_toArray, List.set_cons_zero, List.set_cons_succ]
            refine wpAnyH_imps (S' := fun w' => Below wv.heap.size wv w') (fun w' h => HBv.out.trans (h.mono HBv.out.size)) _ _ _ _ ?_
            replace hHeld := Below.refl wv.heap.size wv
            refine take_at (i := 12) 83 (v := ?v31) rfl rfl (by kernel_rfl) (by kernel_rfl) (by kernel_rfl) (fun _ _ _ h => h) (Or.inl ⟨by rfl, ?y31⟩) hHeld ?r31
            case y31 => (intro w' hSw; have q6 := (HTv.out.below hSw).str (cap := cv); go_simp; (try with_reducible rfl))
            try simp only [Act.put, List.setIfInBounds_toArray, List.set_cons_zero, List.set_cons_succ]
            refine take_at (i := 15) 86 (v := (.bool false)) rfl rfl (by kernel_rfl) (by kernel_rfl) (by kernel_rfl) (fun _ _ _ h => h) (Or.inl ⟨by rfl, ?y32⟩) hHeld ?r32
            case y32 => (intro w' hSw; skip; go_simp; (try with_reducible rfl))
            try simp only [Act.put, List.setIfInBounds_toArray, List.set_cons_zero, List.set_cons_succ]
            refine take_at (i := 16) 87 (v := ?v33) rfl rfl (by kernel_rfl) (by kernel_rfl) (by kernel_rfl) (fun _ _ _ h => h) (Or.inl ⟨by rfl, ?y33⟩) hHeld ?r33
            case y33 => (intro w' hSw; skip; go_simp; (try with_reducible rfl))
            try simp only [Act.put, List.setIfInBounds_toArray, List.set_cons_zero, List.set_cons_succ]
            refine wpAnyH_done (by kernel_rfl) ?_ _
            clear hHeld
            have HRZ := HRB.out.below HBv.out
            obtain ⟨⟨o0, o1, o2, o3, o4⟩, f0, f1, f2, f3⟩ := id HRZ
            have z0 := (HBv.out.cell (p := ⟨w.heap.size + 1, 0, none⟩) (by show w.heap.size + 1 < _; omega)).trans t0
            have z1 := (HBv.out.cell (p := ⟨w.heap.size + 1, 1, none⟩) (by show w.heap.size + 1 < _; omega)).trans t1
            have z2 := (HBv.out.cell (p := ⟨w.heap.size + 1, 2, none⟩) (by show w.heap.size + 1 < _; omega)).trans t2
            have z3 := (HBv.out.cell (p := ⟨w.heap.size + 1, 3, none⟩) (by show w.heap.size + 1 < _; omega)).trans t3
            have HBZ : Hid (Below w.heap.size w wv) := HBW.out.trans (HBv.out.mono (by omega))
            clear HRZ HRB HBW t0 t1 t2 t3
            go_wp2_with fail
            refine bodyPost_ret (v := .tuple #[.agg #[.int .i64 3, .slice none 0 0, .int .i64 (-(m : Int)), .int .i64 ss], .bool true]) (by simp [results, Tryz.results123, go_sem, *]) rfl ⟨.inl ⟨_, _, HYES.out, rfl⟩, ?_⟩
            exact bl_set (bl_set (bl_set (bl_set HBZ.out (Nat.le_refl _) _) (Nat.le_refl _) _) (Nat.le_refl _) _) (Nat.le_refl _) _
          · have HNO : Hid (numOf raw = none) := hpo.2.2 (.inr fun h => hlr (hL.symm.trans h))
            have hne2 := strB_ne2 HBYL.out (byt_raw HB.out) hlr
            have hne1 : strOfNums L ≠ strOfNums raw := fun e => hne2 (by rw [e])
            clear hpo hlk hq hL hlr
            go_wp2_with fail
            rw [← hwt]
            clear hwt
            skip
            refine wp_region_held_drew (S := fun w' => Below wt.heap.size wt w') (by kernel_rfl) ?_ (fun hHeld => ?_)
            · exact Below.drew (Below.refl _ _)
            refine take_at (i := 0) 71 (v := ?v34) rfl rfl (by kernel_rfl) (by kernel_rfl) (by kernel_rfl) (fun _ _ _ h => h) (Or.inl ⟨by rfl, ?y34⟩) hHeld ?r34
            case y34 => (intro w' hSw; skip; go_simp; (try with_reducible rfl))
            try simp only [Act.put, List.setIfInBounds_toArray, List.set_cons_zero, List.set_cons_succ]
            refine take_at (i := 1) 72 (v := ?v35) rfl rfl (by kernel_rfl) (by kernel_rfl) (by kernel_rfl) (fun _ _ _ h => h) (Or.inl ⟨by rfl, ?y35⟩) hHeld ?r35
            case y35 => (intro w' hSw; skip; go_simp; (try with_reducible rfl))
            try simp only [Act.put, List.setIfInBounds_toArray, List.set_cons_zero, List.set_cons_succ]
            refine take_at (i := 2) 73 (v := ?v36) rfl rfl (by kernel_rfl) (by kernel_rfl) (by kernel_rfl) (fun _ _ _ h => h) (Or.inl ⟨by rfl, ?y36⟩) hHeld ?r36
            case y36 => (intro w' hSw; skip; go_simp; (try with_reducible rfl))
            try simp only [Act.put, List.setIfInBounds_toArray, List.set_cons_zero, List.set_cons_succ]
            refine take_at (i := 3) 74 (v := (.bool false)) rfl rfl (by kernel_rfl) (by kernel_rfl) (by kernel_rfl) (fun _ _ _ h => h) (Or.inl ⟨by rfl, ?y37⟩) hHeld ?r37
            case y37 => (intro w' hSw; skip; go_simp; (try with_reducible rfl))
            try simp only [Act.put, List.setIfInBounds_toArray, List.set_cons_zero, List.set_cons_succ]
            refine take_at (i := 4) 75 (v := ?v38) rfl rfl (by kernel_rfl) (by kernel_rfl) (by kernel_rfl) (fun _ _ _ h => h) (Or.inl ⟨by rfl, ?y38⟩) hHeld ?r38
            case y38 => (intro w' hSw; skip; go_simp; (try with_reducible rfl))
            try simp only [Act.put, List.setIfInBounds_toArray, List.set_cons_zero, List.set_cons_succ]
            refine take_at (i := 5) 76 (v := ?v39) rfl rfl (by kernel_rfl) (by kernel_rfl) (by kernel_rfl) (fun _ _ _ h => h) (Or.inl ⟨by rfl, ?y39⟩) hHeld ?r39
            case y39 => (intro w' hSw; have q0 := (hSw.cell (p := ⟨w.heap.size + 1, 0, none⟩) (by show w.heap.size + 1 < _; omega)).trans t0; have q1 := (hSw.cell (p := ⟨w.heap.size + 1, 1, none⟩) (by show w.heap.size + 1 < _; omega)).trans t1; have q2 := (hSw.cell (p := ⟨w.heap.size + 1, 2, none⟩) (by show w.heap.size + 1 < _; omega)).trans t2; have q3 := (hSw.cell (p := ⟨w.heap.size + 1, 3, none⟩) (by show w.heap.size + 1 < _; omega)).trans t3; go_simp; (try with_reducible rfl))
            try simp only [Act.put, List.setIfInBounds_toArray, List.set_cons_zero, List.set_cons_succ]
            refine wpAnyH_ready (rs := [6]) (by kernel_rfl) (by simp) ?_
            refine AllReadyH.cons rfl (fun K hK => ?_) AllReadyH.nil
            go_simp
            refine (TOK.out _ (Below.drew (Below.refl _ _))).mono ?_
            rintro e wu ⟨rfl, hbu⟩
            refine hK.out _ _ ?_ (fun hHeld => ?_)
            · exact hbu
            clear hK K
            try simp only [Act.put, List.setIfInBounds_toArray, List.set_cons_zero, List.set_cons_succ]
            have HBu : Hid (Below wt.heap.size wt wu) := hbu
            clear hbu
            refine take_at (i := 7) 78 (v := ?v40) rfl rfl (by kernel_rfl) (by kernel_rfl) (by kernel_rfl) (fun _ _ _ h => h) (Or.inl ⟨by rfl, ?y40⟩) hHeld ?r40
            case y40 => (intro w' hSw; skip; go_simp; (try with_reducible rfl))
            try simp only [Act.put, List.setIfInBounds_toArray, List.set_cons_zero, List.set_cons_succ]
            refine take_at (i := 8) 79 (v := ?v41) rfl rfl (by kernel_rfl) (by kernel_rfl) (by kernel_rfl) (fun _ _ _ h => h) (Or.inl ⟨by rfl, ?y41⟩) hHeld ?r41
            case y41 => (intro w' hSw; skip; go_simp; (try with_reducible rfl))
            try simp only [Act.put, List.setIfInBounds_toArray, List.set_cons_zero, List.set_cons_succ]
            refine take_at (i := 9) 80 (v := ?v42) rfl rfl (by kernel_rfl) (by kernel_rfl) (by kernel_rfl) (fun _ _ _ h => h) (Or.inl ⟨by rfl, ?y42⟩) hHeld ?r42
            case y42 => (intro w' hSw; skip; go_simp; (try with_reducible rfl))
            try simp only [Act.put, List.setIfInBounds_toArray, List.set_cons_zero, List.set_cons_succ]
            refine take_at (i := 10) 81 (v := ?v43) rfl rfl (by kernel_rfl) (by kernel_rfl) (by kernel_rfl) (fun _ _ _ h => h) (Or.inl ⟨by rfl, ?y43⟩) hHeld ?r43
            case y43 => (intro w' hSw; have q0 := (hSw.cell (p := ⟨w.heap.size + 1, 0, none⟩) (by show w.heap.size + 1 < _; omega)).trans t0; have q1 := (hSw.cell (p := ⟨w.heap.size + 1, 1, none⟩) (by show w.heap.size + 1 < _; omega)).trans t1; have q2 := (hSw.cell (p := ⟨w.heap.size + 1, 2, none⟩) (by show w.heap.size + 1 < _; omega)).trans t2; have q3 := (hSw.cell (p := ⟨w.heap.size + 1, 3, none⟩) (by show w.heap.size + 1 < _; omega)).trans t3; go_simp; (try with_reducible rfl))
            try simp only [Act.put, List.setIfInBounds_toArray, List.set_cons_zero, List.set_cons_succ]
            refine take_at (i := 13) 84 (v := ?v44) rfl rfl (by kernel_rfl) (by kernel_rfl) (by kernel_rfl) (fun _ _ _ h => h) (Or.inl ⟨by rfl, ?y44⟩) hHeld ?r44
            case y44 => (intro w' hSw; skip; go_simp; (try with_reducible rfl))
            try simp only [Act.put, List.setIfInBounds_toArray, List.set_cons_zero, List.set_cons_succ]
            refine take_at (i := 14) 85 (v := ?v45) rfl rfl (by kernel_rfl) (by kernel_rfl) (by kernel_rfl) (fun _ _ _ h => h) (Or.inl ⟨by rfl, ?y45⟩) hHeld ?r45
            case y45 => (intro w' hSw; have q5 := (HBT.out.below hSw).str (cap := cap); go_simp; (try with_reducible rfl))
            try simp only [Act.put, List.setIfInBounds_toArray, List.set_cons_zero, List.set_cons_succ]
            refine wpAnyH_ready (rs := [11]) (by kernel_rfl) (by simp) ?_
            refine AllReadyH.cons rfl (fun K hK => ?_) AllReadyH.nil
            go_simp
            refine (NUM.out _).mono ?_
            rintro e wv ⟨gv, cv, rfl, hRv, hbv⟩
            have HBv : Hid (Below wt.heap.size wt wv) := HBu.out.trans (hbv.mono HBu.out.size)
            have HTv : Hid (Bs wv (some ⟨gv, 0, none⟩) L.length L) := (hRv.nw HBYL.out (by omega)).bs
            clear hRv hbv
            refine hK.out _ _ ?_ (fun hHeld => ?_)
            · exact HBv.out
            clear hK K
            try simp only [Act.put, List.setIfInBounds_toArray, List.set_cons_zero, List.set_cons_succ]
            refine wpAnyH_imps (S' := fun w' => Below wv.heap.size wv w') (fun w' h => HBv.out.trans (h.mono HBv.out.size)) _ _ _ _ ?_
            replace hHeld := Below.refl wv.heap.size wv
            refine take_at (i := 12) 83 (v := ?v46) rfl rfl (by kernel_rfl) (by kernel_rfl) (by kernel_rfl) (fun _ _ _ h => h) (Or.inl ⟨by rfl, ?y46⟩) hHeld ?r46
            case y46 => (intro w' hSw; have q6 := (HTv.out.below hSw).str (cap := cv); go_simp; (try with_reducible rfl))
            try simp only [Act.put, List.setIfInBounds_toArray, List.set_cons_zero, List.set_cons_succ]
            refine take_at (i := 15) 86 (v := (.bool true)) rfl rfl (by kernel_rfl) (by kernel_rfl) (by kernel_rfl) (fun _ _ _ h => h) (Or.inl ⟨by rfl, ?y47⟩) hHeld ?r47
            case y47 => (intro w' hSw; skip; go_simp; (try with_reducible rfl))
            try simp only [Act.put, List.setIfInBounds_toArray, List.set_cons_zero, List.set_cons_succ]
            refine take_at (i := 16) 87 (v := ?v48) rfl rfl (by kernel_rfl) (by kernel_rfl) (by kernel_rfl) (fun _ _ _ h => h) (Or.inl ⟨by rfl, ?y48⟩) hHeld ?r48
            case y48 => (intro w' hSw; skip; go_simp; (try with_reducible rfl))
            try simp only [Act.put, List.setIfInBounds_toArray, List.set_cons_zero, List.set_cons_succ]
            refine wpAnyH_done (by kernel_rfl) ?_ _
            clear hHeld
            have HRZ := HRB.out.below HBv.out
            obtain ⟨⟨o0, o1, o2, o3, o4⟩, f0, f1, f2, f3⟩ := id HRZ
            have HBZ : Hid (Below w.heap.size w wv) := HBW.out.trans (HBv.out.mono (by omega))
            clear HRZ HRB HBW
            go_wp2_with fail
            refine bodyPost_ret (v := .tuple #[.agg #[.int .i64 0, .slice none 0 0, .int .i64 0, .int .i64 0], .bool false]) (by simp [results, Tryz.results123, go_sem, *]) rfl ⟨.inr ⟨HNO.out, rfl⟩, ?_⟩
            exact bl_set (bl_set (bl_set (bl_set HBZ.out (Nat.le_refl _) _) (Nat.le_refl _) _) (Nat.le_refl _) _) (Nat.le_refl _) _
end Go.Proofs.YtoclingolfdfeaaGreatDoor
