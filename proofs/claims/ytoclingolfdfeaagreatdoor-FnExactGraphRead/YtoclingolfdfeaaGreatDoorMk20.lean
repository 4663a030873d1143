/- Texts put together: LxH -/
import Derived.Test.YtoclingolfdfeaaGreatDoorMk19
import Derived.Test.YtoclingolfdfeaaGreatDoorMk08
/- LxH -/
namespace Go.Proofs.YtoclingolfdfeaaGreatDoor
open Go.RowKit Go.Deep
set_option maxRecDepth 100000

/-- What a call that answers a token answers, by the token o. -/
def TokA (o : Option PT) (i : Nat) (w : World) (e : Ending) (w' : World) : Prop :=
  (∃ (m : MT) (end_ : Int), e = .returned (.tuple #[.agg (eM m).toArray, .int .i64 end_]) ∧ m.lies w' ∧ ((∃ t, o = some t ∧ m.is i t ∧ end_ = ((i + t.raw.length : Nat) : Int)) ∨ (o = none ∧ end_ = -1))) ∧ Below w.heap.size w w'
/-- A word or a sign. -/
def tokOther : List Int → Option PT
  | [] => none
  | b :: r => if great b = true then some ⟨2, (b :: r).take (greatLen (b :: r)), td0⟩ else if signB b = true then some ⟨3, [b], td0⟩ else none
theorem greatLen_yes {b : Int} {r : List Int} (h : great b = true) : greatLen (b :: r) = greatLen r + 1 := by rw [greatLen, if_pos h]
theorem greatLen_no {b : Int} {r : List Int} (h : great b = false) : greatLen (b :: r) = 0 := by rw [greatLen, if_neg (by rw [h]; decide)]
def signM : ByteArray := { data := #[46, 123, 125, 40, 41, 42, 43, 45, 47, 61, 60, 38, 124] }
theorem signM_nums : numsOf signM = [46, 123, 125, 40, 41, 42, 43, 45, 47, 61, 60, 38, 124] := by decide
theorem signM_size : signM.size = 13 := by decide
theorem sign_at {k : Nat} (h : k < signM.size) {b : Int} (e : ((signM[k].toNat : Nat) : Int) = b) : signB b = true := by
  have h1 : (numsOf signM)[k]? = some b := by
    have := nums_drop signM k h
    have h2 : ((numsOf signM).drop k)[0]? = some ((signM[k].toNat : Nat) : Int) := by rw [this]; rfl
    rw [List.getElem?_drop, Nat.add_zero] at h2
    rw [h2, e]
  unfold signB
  rw [← signM_nums, List.contains_iff_mem]
  exact List.mem_of_getElem? h1
theorem sign_not {b : Int} (h : ∀ k (hk : k < signM.size), ((signM[k].toNat : Nat) : Int) ≠ b) : signB b = false := by
  cases hs : signB b with
  | false => rfl
  | true =>
    unfold signB at hs
    rw [← signM_nums, List.contains_iff_mem] at hs
    obtain ⟨k, hk, e⟩ := List.getElem_of_mem hs
    rw [numsOf_len] at hk
    have := nums_drop signM k hk
    have h2 : ((numsOf signM).drop k)[0]? = some ((signM[k].toNat : Nat) : Int) := by rw [this]; rfl
    rw [List.getElem?_drop, Nat.add_zero, List.getElem?_eq_getElem (by rw [numsOf_len]; exact hk)] at h2
    exact absurd ((Option.some.inj h2).symm.trans e) (h k hk)
theorem Tz.new0at (w : World) (b : Nat) (e : b = w.heap.size) : Tz (w.alloc (.cells #[] 5)) b (some ⟨b, 0, none⟩) 0 0 [] := by
  subst e
  exact Tz.new0 w
/-- A piece of a text. -/
theorem Bs.piece {w : World} {b off len : Nat} {bs : List Int} (h : Bs w (some ⟨b, off, none⟩) len bs) {i j : Nat} (h1 : i ≤ j) (h2 : j ≤ len) : Bs w (some ⟨b, off + i, none⟩) (j - i) ((bs.drop i).take (j - i)) := by
  obtain ⟨l1, l2, l3, l4⟩ := h
  refine ⟨by rw [List.length_take, List.length_drop]; omega, by omega, fun n => ?_, ?_⟩
  · rw [List.getElem?_take]
    split
    · rw [List.getElem?_drop]
      exact l3 _
    · simp
  · by_cases h0 : j - i = 0
    · exact .inl h0
    · rcases l4 with l4 | ⟨b', off', e, hl, hc⟩
      · omega
      · cases e
        refine .inr ⟨b, off + i, rfl, hl, fun n hn => ?_⟩
        rw [Nat.add_assoc, hc (i + n) (by omega), List.getElem?_take, if_pos hn, List.getElem?_drop]
set_option maxHeartbeats 16000000 in
theorem l2other_any (a : Option Addr) (len cap : Nat) (bs : List Int) (i : Nat) (w : World) (hB : Bs w a len bs) (hl3 : len ≤ 100000) (hcap : len ≤ cap) (hi : i < len) :
    Calls Tryz.prog 125 #[.slice a len cap, .int .i64 i] w (TokA (tokOther (bs.drop i)) i w) := by
  have HB : Hid (Bs w a len bs) := hB
  have HN : Hid (bs.length = len) := hB.1
  obtain ⟨b0, off0, c, rfl, hc, hd, c0, c1⟩ := hB.byte hi
  have HD : Hid (bs.drop i = c :: bs.drop (i + 1)) := hd
  have hiz : (i : Int) < (len : Int) := by omega
  have hic : i ≤ cap := by omega
  have hicn : ¬ cap = i := by omega
  have hc1 : (w.alloc (.cells [.int .i64 0, .int .i64 0, .int .i64 0, .slice none 0 0, .int .i64 0, .int .i64 0, .slice none 0 0].toArray 77)).cell? ⟨b0, off0 + i, none⟩ = some (.int .u8 c) := ((bl_a (w := w) _).cell (p := ⟨b0, off0 + i, none⟩) (cell_ltC hc)).trans hc
  clear hB hd
  by_cases hg : great c = true
  · have hg65 : 65 ≤ c := by simp [great] at hg; omega
    have hg90 : c ≤ 90 := by simp [great] at hg; omega
    obtain ⟨E, hE⟩ : ∃ E, i + greatLen (bs.drop i) = E := ⟨_, rfl⟩
    have hEl : E ≤ len := by
      have := greatLen_le (bs.drop i)
      rw [List.length_drop] at this
      have := HN.out
      omega
    have hiE : i < E := by
      rw [HD.out, greatLen_yes hg] at hE
      omega
    have HE : Hid (i + greatLen (bs.drop i) = E) := hE
    have HG : Hid (great c = true) := hg
    clear hE hg
    go_enter Tryz.func125, Tryz.ntmps125
    go_wp2_with fail
    go_loop [8] (fun kv => ∃ k : Nat, k ≤ len ∧ kv = .int .i64 k ∧ Hid (k + greatLen (bs.drop k) = E)) (fun kv => len - (intOf kv).toNat)
    case atStart => exact ⟨i, by omega, rfl, HE⟩
    case round =>
      obtain ⟨k, hk, rfl, HH⟩ := hrel
      clear hc1
      by_cases hlt : k < len
      · have hltz : (k : Int) < (len : Int) := by omega
        obtain ⟨b1, off1, x, e1, hx, hdx, x0, x1⟩ := HB.out.byte hlt
        cases e1
        have hx1 : ((w.alloc (.cells [.int .i64 0, .int .i64 0, .int .i64 0, .slice none 0 0, .int .i64 0, .int .i64 0, .slice none 0 0].toArray 77)).alloc (.cells [.int .i64 5, .int .i64 i, .int .i64 0, .slice none 0 0, .int .i64 0, .int .i64 0, (.slice none 0 0)].toArray 77)).cell? ⟨b0, off0 + k, none⟩ = some (.int .u8 x) := (((bl_alloc (bl_a (w := w) _) _) : Below w.heap.size w _).cell (p := ⟨b0, off0 + k, none⟩) (cell_ltC hx)).trans hx
        by_cases h65 : 65 ≤ x
        · by_cases h90 : x ≤ 90
          · have HH2 : Hid (k + 1 + greatLen (bs.drop (k + 1)) = E) := by
              have h := HH.out
              rw [hdx, greatLen_yes (by simp [great, h65, h90])] at h
              show _ = _
              omega
            clear hdx hx
            go_wp2_with fail
            go_round
            case rel => exact ⟨k + 1, by omega, by go_num, HH2⟩
            case measure => simp [intOf]; omega
          · have hkE : k = E := by
              have h := HH.out
              rw [hdx, greatLen_no (by simp [great, h90])] at h
              omega
            subst hkE
            clear hdx hx
            have hkc : k ≤ cap := by omega
            have hik : i ≤ k := by omega
            have hikz : (i : Int) ≤ (k : Int) := by omega
            have hkcz : (k : Int) ≤ (cap : Int) := by omega
            have HW3 : Hid (Below w.heap.size w (((w.alloc (.cells [.int .i64 0, .int .i64 0, .int .i64 0, .slice none 0 0, .int .i64 0, .int .i64 0, .slice none 0 0].toArray 77)).alloc (.cells [.int .i64 3, .int .i64 i, .int .i64 0, .slice none 0 0, .int .i64 0, .int .i64 0, (.slice none 0 0)].toArray 77)).alloc (.cells #[] 5))) := bl_alloc (bl_alloc (bl_a _) _) _
            have HT3 : Hid (Tz (((w.alloc (.cells [.int .i64 0, .int .i64 0, .int .i64 0, .slice none 0 0, .int .i64 0, .int .i64 0, .slice none 0 0].toArray 77)).alloc (.cells [.int .i64 3, .int .i64 i, .int .i64 0, .slice none 0 0, .int .i64 0, .int .i64 0, (.slice none 0 0)].toArray 77)).alloc (.cells #[] 5)) (w.heap.size + 1 + 1) (some ⟨w.heap.size + 1 + 1, 0, none⟩) 0 0 []) := Tz.new0at _ _ (by simp)
            have HS3 : Hid (Src Tryz.prog 1 22 (.slice (some ⟨b0, off0 + i, none⟩) (k - i) (cap - i)) (k - i) (((bs.drop i).take (k - i)).map (Value.int .u8)) (((w.alloc (.cells [.int .i64 0, .int .i64 0, .int .i64 0, .slice none 0 0, .int .i64 0, .int .i64 0, .slice none 0 0].toArray 77)).alloc (.cells [.int .i64 3, .int .i64 i, .int .i64 0, .slice none 0 0, .int .i64 0, .int .i64 0, (.slice none 0 0)].toArray 77)).alloc (.cells #[] 5))) := src_bs ((HB.out.piece hik (by omega)).below HW3.out)
            have HY3 : Hid (Byt ([] ++ (bs.drop i).take (k - i))) := by
              rw [List.nil_append]
              exact ((byt_raw HB.out).dropB i).takeB _
            have hB3 : w.heap.size + 1 + 1 ≤ (((w.alloc (.cells [.int .i64 0, .int .i64 0, .int .i64 0, .slice none 0 0, .int .i64 0, .int .i64 0, .slice none 0 0].toArray 77)).alloc (.cells [.int .i64 3, .int .i64 i, .int .i64 0, .slice none 0 0, .int .i64 0, .int .i64 0, (.slice none 0 0)].toArray 77)).alloc (.cells #[] 5)).heap.size := by simp
            have HX3 : Hid (Bx (((w.alloc (.cells [.int .i64 0, .int .i64 0, .int .i64 0, .slice none 0 0, .int .i64 0, .int .i64 0, .slice none 0 0].toArray 77)).alloc (.cells [.int .i64 3, .int .i64 i, .int .i64 0, .slice none 0 0, .int .i64 0, .int .i64 0, (.slice none 0 0)].toArray 77)).alloc (.cells #[] 5)) (w.heap.size + 1) [.int .i64 3, .int .i64 i, .int .i64 0, .slice none 0 0, .int .i64 0, .int .i64 0, (.slice none 0 0)]) := (Bx.new (w.alloc (.cells [.int .i64 0, .int .i64 0, .int .i64 0, .slice none 0 0, .int .i64 0, .int .i64 0, .slice none 0 0].toArray 77)) (w.heap.size + 1) _ 77 (by simp)).below (bl_a _)
            have HR3 : Hid (Bx (((w.alloc (.cells [.int .i64 0, .int .i64 0, .int .i64 0, .slice none 0 0, .int .i64 0, .int .i64 0, .slice none 0 0].toArray 77)).alloc (.cells [.int .i64 3, .int .i64 i, .int .i64 0, .slice none 0 0, .int .i64 0, .int .i64 0, (.slice none 0 0)].toArray 77)).alloc (.cells #[] 5)) w.heap.size [.int .i64 0, .int .i64 0, .int .i64 0, .slice none 0 0, .int .i64 0, .int .i64 0, .slice none 0 0]) := ((Bx.new w w.heap.size _ 77 rfl).below (bl_a _)).below (bl_a _)
            have HTO : Hid (∃ t, tokOther (bs.drop i) = some t ∧ t.kind = 2 ∧ t.raw = (bs.drop i).take (k - i)) := by
              refine ⟨⟨2, (bs.drop i).take (greatLen (bs.drop i)), td0⟩, ?_, rfl, ?_⟩
              · rw [HD.out, tokOther, if_pos HG.out]
              · show (bs.drop i).take (greatLen (bs.drop i)) = _
                congr 1
                have := HE.out
                omega
            clear HH HE HG
            go_wp2_with (refine list_app8z rfl (.tmp 45) (.tmp 49) 22 rfl (w.heap.size + 1 + 1) 0 0 (some ⟨w.heap.size + 1 + 1, 0, none⟩) [] rfl HT3 (.slice (some ⟨b0, off0 + i, none⟩) (k - i) (cap - i)) (k - i) ((bs.drop i).take (k - i)) rfl (fun h => by cases h) HS3 HY3 (k - i) (Nat.zero_add _) ((bs.drop i).take (k - i)) (List.nil_append _) (by omega) hB3 ?_; intro g4 c4 w4 HT4 HD4; have HX4 : Hid (Bx w4 (w.heap.size + 1) [.int .i64 3, .int .i64 i, .int .i64 0, .slice none 0 0, .int .i64 0, .int .i64 0, (.slice none 0 0)]) := HX3.out.belowB HD4.out (by omega); have HR4 : Hid (Bx w4 w.heap.size [.int .i64 0, .int .i64 0, .int .i64 0, .slice none 0 0, .int .i64 0, .int .i64 0, .slice none 0 0]) := HR3.out.belowB HD4.out (by omega); have HW4 : Hid (Below w.heap.size w w4) := HW3.out.trans (HD4.out.mono (by omega)); have x6 := HX4.out.c 6 _ rfl; have xf6 := HX4.out.f 6 (by simp); obtain ⟨z0, z1, z2, z3, z4, z5, z6⟩ := bx7 HX4.out; obtain ⟨y0, y1, y2, y3, y4, y5, y6⟩ := bx7 HR4.out; obtain ⟨e0, e1, e2, e3, e4, e5, e6⟩ := bx7f HR4.out)
            have HP5 : Past (w.heap.size + 1) w4 (w4.setCell ⟨w.heap.size + 1, 6, none⟩ (.slice (some ⟨g4, 0, none⟩) (k - i) c4)) := (Past.refl _ _).set 6 _
            have hl5 : (⟨3, i, ⟨0, none, 0, 0, 0, 0⟩, [], some ⟨g4, 0, none⟩, k - i, c4, (bs.drop i).take (k - i)⟩ : MT).lies (w4.setCell ⟨w.heap.size + 1, 6, none⟩ (.slice (some ⟨g4, 0, none⟩) (k - i) c4)) := ⟨Bs0.nil _ _, (HT4.out.past HP5 (by omega)).bs0, fits0 _ _ _ _⟩
            have hF := fin7 (m := ⟨3, i, ⟨0, none, 0, 0, 0, 0⟩, [], some ⟨g4, 0, none⟩, k - i, c4, (bs.drop i).take (k - i)⟩) (rb := w.heap.size) (Nat.le_refl _) (HR4.out.other 6 (.slice (some ⟨g4, 0, none⟩) (k - i) c4) (c := w.heap.size + 1) (by omega)) hl5 (HW4.out.setCell (p := ⟨w.heap.size + 1, 6, none⟩) (by show w.heap.size ≤ w.heap.size + 1; omega) _)
            have HTT : Hid (∃ t, tokOther (bs.drop i) = some t ∧ (⟨3, i, ⟨0, none, 0, 0, 0, 0⟩, [], some ⟨g4, 0, none⟩, k - i, c4, (bs.drop i).take (k - i)⟩ : MT).is i t ∧ (k : Int) = ((i + t.raw.length : Nat) : Int)) := by
              obtain ⟨t, h1, h2, h3⟩ := HTO.out
              refine ⟨t, h1, ⟨by rw [h2]; rfl, rfl, fun h => by omega, by rw [txtM, if_neg (by omega), if_neg (by omega), h3]⟩, ?_⟩
              rw [h3, List.length_take, List.length_drop]
              have := HN.out
              omega
            refine bodyPost_ret (v := .tuple #[.agg #[.int .i64 3, .int .i64 i, .int .i64 0, .slice none 0 0, .int .i64 0, .int .i64 0, .slice (some ⟨g4, 0, none⟩) (k - i) c4], .int .i64 k]) (by simp [results, Tryz.results125, go_sem, *]) rfl ⟨⟨⟨3, i, ⟨0, none, 0, 0, 0, 0⟩, [], some ⟨g4, 0, none⟩, k - i, c4, (bs.drop i).take (k - i)⟩, _, rfl, hF.1, .inl HTT.out⟩, hF.2⟩
        · have hkE : k = E := by
            have h := HH.out
            rw [hdx, greatLen_no (by simp [great, h65])] at h
            omega
          subst hkE
          clear hdx hx
          have hkc : k ≤ cap := by omega
          have hik : i ≤ k := by omega
          have hikz : (i : Int) ≤ (k : Int) := by omega
          have hkcz : (k : Int) ≤ (cap : Int) := by omega
          have HW3 : Hid (Below w.heap.size w (((w.alloc (.cells [.int .i64 0, .int .i64 0, .int .i64 0, .slice none 0 0, .int .i64 0, .int .i64 0, .slice none 0 0].toArray 77)).alloc (.cells [.int .i64 3, .int .i64 i, .int .i64 0, .slice none 0 0, .int .i64 0, .int .i64 0, (.slice none 0 0)].toArray 77)).alloc (.cells #[] 5))) := bl_alloc (bl_alloc (bl_a _) _) _
          have HT3 : Hid (Tz (((w.alloc (.cells [.int .i64 0, .int .i64 0, .int .i64 0, .slice none 0 0, .int .i64 0, .int .i64 0, .slice none 0 0].toArray 77)).alloc (.cells [.int .i64 3, .int .i64 i, .int .i64 0, .slice none 0 0, .int .i64 0, .int .i64 0, (.slice none 0 0)].toArray 77)).alloc (.cells #[] 5)) (w.heap.size + 1 + 1) (some ⟨w.heap.size + 1 + 1, 0, none⟩) 0 0 []) := Tz.new0at _ _ (by simp)
          have HS3 : Hid (Src Tryz.prog 1 22 (.slice (some ⟨b0, off0 + i, none⟩) (k - i) (cap - i)) (k - i) (((bs.drop i).take (k - i)).map (Value.int .u8)) (((w.alloc (.cells [.int .i64 0, .int .i64 0, .int .i64 0, .slice none 0 0, .int .i64 0, .int .i64 0, .slice none 0 0].toArray 77)).alloc (.cells [.int .i64 3, .int .i64 i, .int .i64 0, .slice none 0 0, .int .i64 0, .int .i64 0, (.slice none 0 0)].toArray 77)).alloc (.cells #[] 5))) := src_bs ((HB.out.piece hik (by omega)).below HW3.out)
          have HY3 : Hid (Byt ([] ++ (bs.drop i).take (k - i))) := by
            rw [List.nil_append]
            exact ((byt_raw HB.out).dropB i).takeB _
          have hB3 : w.heap.size + 1 + 1 ≤ (((w.alloc (.cells [.int .i64 0, .int .i64 0, .int .i64 0, .slice none 0 0, .int .i64 0, .int .i64 0, .slice none 0 0].toArray 77)).alloc (.cells [.int .i64 3, .int .i64 i, .int .i64 0, .slice none 0 0, .int .i64 0, .int .i64 0, (.slice none 0 0)].toArray 77)).alloc (.cells #[] 5)).heap.size := by simp
          have HX3 : Hid (Bx (((w.alloc (.cells [.int .i64 0, .int .i64 0, .int .i64 0, .slice none 0 0, .int .i64 0, .int .i64 0, .slice none 0 0].toArray 77)).alloc (.cells [.int .i64 3, .int .i64 i, .int .i64 0, .slice none 0 0, .int .i64 0, .int .i64 0, (.slice none 0 0)].toArray 77)).alloc (.cells #[] 5)) (w.heap.size + 1) [.int .i64 3, .int .i64 i, .int .i64 0, .slice none 0 0, .int .i64 0, .int .i64 0, (.slice none 0 0)]) := (Bx.new (w.alloc (.cells [.int .i64 0, .int .i64 0, .int .i64 0, .slice none 0 0, .int .i64 0, .int .i64 0, .slice none 0 0].toArray 77)) (w.heap.size + 1) _ 77 (by simp)).below (bl_a _)
          have HR3 : Hid (Bx (((w.alloc (.cells [.int .i64 0, .int .i64 0, .int .i64 0, .slice none 0 0, .int .i64 0, .int .i64 0, .slice none 0 0].toArray 77)).alloc (.cells [.int .i64 3, .int .i64 i, .int .i64 0, .slice none 0 0, .int .i64 0, .int .i64 0, (.slice none 0 0)].toArray 77)).alloc (.cells #[] 5)) w.heap.size [.int .i64 0, .int .i64 0, .int .i64 0, .slice none 0 0, .int .i64 0, .int .i64 0, .slice none 0 0]) := ((Bx.new w w.heap.size _ 77 rfl).below (bl_a _)).below (bl_a _)
          have HTO : Hid (∃ t, tokOther (bs.drop i) = some t ∧ t.kind = 2 ∧ t.raw = (bs.drop i).take (k - i)) := by
            refine ⟨⟨2, (bs.drop i).take (greatLen (bs.drop i)), td0⟩, ?_, rfl, ?_⟩
            · rw [HD.out, tokOther, if_pos HG.out]
            · show (bs.drop i).take (greatLen (bs.drop i)) = _
              congr 1
              have := HE.out
              omega
          clear HH HE HG
          go_wp2_with (refine list_app8z rfl (.tmp 45) (.tmp 49) 22 rfl (w.heap.size + 1 + 1) 0 0 (some ⟨w.heap.size + 1 + 1, 0, none⟩) [] rfl HT3 (.slice (some ⟨b0, off0 + i, none⟩) (k - i) (cap - i)) (k - i) ((bs.drop i).take (k - i)) rfl (fun h => by cases h) HS3 HY3 (k - i) (Nat.zero_add _) ((bs.drop i).take (k - i)) (List.nil_append _) (by omega) hB3 ?_; intro g4 c4 w4 HT4 HD4; have HX4 : Hid (Bx w4 (w.heap.size + 1) [.int .i64 3, .int .i64 i, .int .i64 0, .slice none 0 0, .int .i64 0, .int .i64 0, (.slice none 0 0)]) := HX3.out.belowB HD4.out (by omega); have HR4 : Hid (Bx w4 w.heap.size [.int .i64 0, .int .i64 0, .int .i64 0, .slice none 0 0, .int .i64 0, .int .i64 0, .slice none 0 0]) := HR3.out.belowB HD4.out (by omega); have HW4 : Hid (Below w.heap.size w w4) := HW3.out.trans (HD4.out.mono (by omega)); have x6 := HX4.out.c 6 _ rfl; have xf6 := HX4.out.f 6 (by simp); obtain ⟨z0, z1, z2, z3, z4, z5, z6⟩ := bx7 HX4.out; obtain ⟨y0, y1, y2, y3, y4, y5, y6⟩ := bx7 HR4.out; obtain ⟨e0, e1, e2, e3, e4, e5, e6⟩ := bx7f HR4.out)
          have HP5 : Past (w.heap.size + 1) w4 (w4.setCell ⟨w.heap.size + 1, 6, none⟩ (.slice (some ⟨g4, 0, none⟩) (k - i) c4)) := (Past.refl _ _).set 6 _
          have hl5 : (⟨3, i, ⟨0, none, 0, 0, 0, 0⟩, [], some ⟨g4, 0, none⟩, k - i, c4, (bs.drop i).take (k - i)⟩ : MT).lies (w4.setCell ⟨w.heap.size + 1, 6, none⟩ (.slice (some ⟨g4, 0, none⟩) (k - i) c4)) := ⟨Bs0.nil _ _, (HT4.out.past HP5 (by omega)).bs0, fits0 _ _ _ _⟩
          have hF := fin7 (m := ⟨3, i, ⟨0, none, 0, 0, 0, 0⟩, [], some ⟨g4, 0, none⟩, k - i, c4, (bs.drop i).take (k - i)⟩) (rb := w.heap.size) (Nat.le_refl _) (HR4.out.other 6 (.slice (some ⟨g4, 0, none⟩) (k - i) c4) (c := w.heap.size + 1) (by omega)) hl5 (HW4.out.setCell (p := ⟨w.heap.size + 1, 6, none⟩) (by show w.heap.size ≤ w.heap.size + 1; omega) _)
          have HTT : Hid (∃ t, tokOther (bs.drop i) = some t ∧ (⟨3, i, ⟨0, none, 0, 0, 0, 0⟩, [], some ⟨g4, 0, none⟩, k - i, c4, (bs.drop i).take (k - i)⟩ : MT).is i t ∧ (k : Int) = ((i + t.raw.length : Nat) : Int)) := by
            obtain ⟨t, h1, h2, h3⟩ := HTO.out
            refine ⟨t, h1, ⟨by rw [h2]; rfl, rfl, fun h => by omega, by rw [txtM, if_neg (by omega), if_neg (by omega), h3]⟩, ?_⟩
            rw [h3, List.length_take, List.length_drop]
            have := HN.out
            omega
          refine bodyPost_ret (v := .tuple #[.agg #[.int .i64 3, .int .i64 i, .int .i64 0, .slice none 0 0, .int .i64 0, .int .i64 0, .slice (some ⟨g4, 0, none⟩) (k - i) c4], .int .i64 k]) (by simp [results, Tryz.results125, go_sem, *]) rfl ⟨⟨⟨3, i, ⟨0, none, 0, 0, 0, 0⟩, [], some ⟨g4, 0, none⟩, k - i, c4, (bs.drop i).take (k - i)⟩, _, rfl, hF.1, .inl HTT.out⟩, hF.2⟩
      · have hltz : ¬ (k : Int) < (len : Int) := by omega
        have hkE : k = E := by
          have h := HH.out
          rw [List.drop_eq_nil_of_le (by have := HN.out; omega)] at h
          simpa [greatLen] using h
        subst hkE
        have hkc : k ≤ cap := by omega
        have hik : i ≤ k := by omega
        have hikz : (i : Int) ≤ (k : Int) := by omega
        have hkcz : (k : Int) ≤ (cap : Int) := by omega
        have HW3 : Hid (Below w.heap.size w (((w.alloc (.cells [.int .i64 0, .int .i64 0, .int .i64 0, .slice none 0 0, .int .i64 0, .int .i64 0, .slice none 0 0].toArray 77)).alloc (.cells [.int .i64 3, .int .i64 i, .int .i64 0, .slice none 0 0, .int .i64 0, .int .i64 0, (.slice none 0 0)].toArray 77)).alloc (.cells #[] 5))) := bl_alloc (bl_alloc (bl_a _) _) _
        have HT3 : Hid (Tz (((w.alloc (.cells [.int .i64 0, .int .i64 0, .int .i64 0, .slice none 0 0, .int .i64 0, .int .i64 0, .slice none 0 0].toArray 77)).alloc (.cells [.int .i64 3, .int .i64 i, .int .i64 0, .slice none 0 0, .int .i64 0, .int .i64 0, (.slice none 0 0)].toArray 77)).alloc (.cells #[] 5)) (w.heap.size + 1 + 1) (some ⟨w.heap.size + 1 + 1, 0, none⟩) 0 0 []) := Tz.new0at _ _ (by simp)
        have HS3 : Hid (Src Tryz.prog 1 22 (.slice (some ⟨b0, off0 + i, none⟩) (k - i) (cap - i)) (k - i) (((bs.drop i).take (k - i)).map (Value.int .u8)) (((w.alloc (.cells [.int .i64 0, .int .i64 0, .int .i64 0, .slice none 0 0, .int .i64 0, .int .i64 0, .slice none 0 0].toArray 77)).alloc (.cells [.int .i64 3, .int .i64 i, .int .i64 0, .slice none 0 0, .int .i64 0, .int .i64 0, (.slice none 0 0)].toArray 77)).alloc (.cells #[] 5))) := src_bs ((HB.out.piece hik (by omega)).below HW3.out)
        have HY3 : Hid (Byt ([] ++ (bs.drop i).take (k - i))) := by
          rw [List.nil_append]
          exact ((byt_raw HB.out).dropB i).takeB _
        have hB3 : w.heap.size + 1 + 1 ≤ (((w.alloc (.cells [.int .i64 0, .int .i64 0, .int .i64 0, .slice none 0 0, .int .i64 0, .int .i64 0, .slice none 0 0].toArray 77)).alloc (.cells [.int .i64 3, .int .i64 i, .int .i64 0, .slice none 0 0, .int .i64 0, .int .i64 0, (.slice none 0 0)].toArray 77)).alloc (.cells #[] 5)).heap.size := by simp
        have HX3 : Hid (Bx (((w.alloc (.cells [.int .i64 0, .int .i64 0, .int .i64 0, .slice none 0 0, .int .i64 0, .int .i64 0, .slice none 0 0].toArray 77)).alloc (.cells [.int .i64 3, .int .i64 i, .int .i64 0, .slice none 0 0, .int .i64 0, .int .i64 0, (.slice none 0 0)].toArray 77)).alloc (.cells #[] 5)) (w.heap.size + 1) [.int .i64 3, .int .i64 i, .int .i64 0, .slice none 0 0, .int .i64 0, .int .i64 0, (.slice none 0 0)]) := (Bx.new (w.alloc (.cells [.int .i64 0, .int .i64 0, .int .i64 0, .slice none 0 0, .int .i64 0, .int .i64 0, .slice none 0 0].toArray 77)) (w.heap.size + 1) _ 77 (by simp)).below (bl_a _)
        have HR3 : Hid (Bx (((w.alloc (.cells [.int .i64 0, .int .i64 0, .int .i64 0, .slice none 0 0, .int .i64 0, .int .i64 0, .slice none 0 0].toArray 77)).alloc (.cells [.int .i64 3, .int .i64 i, .int .i64 0, .slice none 0 0, .int .i64 0, .int .i64 0, (.slice none 0 0)].toArray 77)).alloc (.cells #[] 5)) w.heap.size [.int .i64 0, .int .i64 0, .int .i64 0, .slice none 0 0, .int .i64 0, .int .i64 0, .slice none 0 0]) := ((Bx.new w w.heap.size _ 77 rfl).below (bl_a _)).below (bl_a _)
        have HTO : Hid (∃ t, tokOther (bs.drop i) = some t ∧ t.kind = 2 ∧ t.raw = (bs.drop i).take (k - i)) := by
          refine ⟨⟨2, (bs.drop i).take (greatLen (bs.drop i)), td0⟩, ?_, rfl, ?_⟩
          · rw [HD.out, tokOther, if_pos HG.out]
          · show (bs.drop i).take (greatLen (bs.drop i)) = _
            congr 1
            have := HE.out
            omega
        clear HH HE HG
        go_wp2_with (refine list_app8z rfl (.tmp 45) (.tmp 49) 22 rfl (w.heap.size + 1 + 1) 0 0 (some ⟨w.heap.size + 1 + 1, 0, none⟩) [] rfl HT3 (.slice (some ⟨b0, off0 + i, none⟩) (k - i) (cap - i)) (k - i) ((bs.drop i).take (k - i)) rfl (fun h => by cases h) HS3 HY3 (k - i) (Nat.zero_add _) ((bs.drop i).take (k - i)) (List.nil_append _) (by omega) hB3 ?_; intro g4 c4 w4 HT4 HD4; have HX4 : Hid (Bx w4 (w.heap.size + 1) [.int .i64 3, .int .i64 i, .int .i64 0, .slice none 0 0, .int .i64 0, .int .i64 0, (.slice none 0 0)]) := HX3.out.belowB HD4.out (by omega); have HR4 : Hid (Bx w4 w.heap.size [.int .i64 0, .int .i64 0, .int .i64 0, .slice none 0 0, .int .i64 0, .int .i64 0, .slice none 0 0]) := HR3.out.belowB HD4.out (by omega); have HW4 : Hid (Below w.heap.size w w4) := HW3.out.trans (HD4.out.mono (by omega)); have x6 := HX4.out.c 6 _ rfl; have xf6 := HX4.out.f 6 (by simp); obtain ⟨z0, z1, z2, z3, z4, z5, z6⟩ := bx7 HX4.out; obtain ⟨y0, y1, y2, y3, y4, y5, y6⟩ := bx7 HR4.out; obtain ⟨e0, e1, e2, e3, e4, e5, e6⟩ := bx7f HR4.out)
        have HP5 : Past (w.heap.size + 1) w4 (w4.setCell ⟨w.heap.size + 1, 6, none⟩ (.slice (some ⟨g4, 0, none⟩) (k - i) c4)) := (Past.refl _ _).set 6 _
        have hl5 : (⟨3, i, ⟨0, none, 0, 0, 0, 0⟩, [], some ⟨g4, 0, none⟩, k - i, c4, (bs.drop i).take (k - i)⟩ : MT).lies (w4.setCell ⟨w.heap.size + 1, 6, none⟩ (.slice (some ⟨g4, 0, none⟩) (k - i) c4)) := ⟨Bs0.nil _ _, (HT4.out.past HP5 (by omega)).bs0, fits0 _ _ _ _⟩
        have hF := fin7 (m := ⟨3, i, ⟨0, none, 0, 0, 0, 0⟩, [], some ⟨g4, 0, none⟩, k - i, c4, (bs.drop i).take (k - i)⟩) (rb := w.heap.size) (Nat.le_refl _) (HR4.out.other 6 (.slice (some ⟨g4, 0, none⟩) (k - i) c4) (c := w.heap.size + 1) (by omega)) hl5 (HW4.out.setCell (p := ⟨w.heap.size + 1, 6, none⟩) (by show w.heap.size ≤ w.heap.size + 1; omega) _)
        have HTT : Hid (∃ t, tokOther (bs.drop i) = some t ∧ (⟨3, i, ⟨0, none, 0, 0, 0, 0⟩, [], some ⟨g4, 0, none⟩, k - i, c4, (bs.drop i).take (k - i)⟩ : MT).is i t ∧ (k : Int) = ((i + t.raw.length : Nat) : Int)) := by
          obtain ⟨t, h1, h2, h3⟩ := HTO.out
          refine ⟨t, h1, ⟨by rw [h2]; rfl, rfl, fun h => by omega, by rw [txtM, if_neg (by omega), if_neg (by omega), h3]⟩, ?_⟩
          rw [h3, List.length_take, List.length_drop]
          have := HN.out
          omega
        refine bodyPost_ret (v := .tuple #[.agg #[.int .i64 3, .int .i64 i, .int .i64 0, .slice none 0 0, .int .i64 0, .int .i64 0, .slice (some ⟨g4, 0, none⟩) (k - i) c4], .int .i64 k]) (by simp [results, Tryz.results125, go_sem, *]) rfl ⟨⟨⟨3, i, ⟨0, none, 0, 0, 0, 0⟩, [], some ⟨g4, 0, none⟩, k - i, c4, (bs.drop i).take (k - i)⟩, _, rfl, hF.1, .inl HTT.out⟩, hF.2⟩
  · have hg' : great c = false := by simpa using hg
    have HO : Hid (tokOther (bs.drop i) = if signB c = true then some ⟨3, [c], td0⟩ else none) := by
      show _ = _
      rw [HD.out, tokOther, if_neg hg]
    clear hg
    have hss : signM.size = 13 := signM_size
    by_cases h65 : 65 ≤ c
    · have h90 : ¬ c ≤ 90 := fun h => by simp [great, h65, h] at hg'
      go_enter Tryz.func125, Tryz.ntmps125
      go_wp2_with fail
      have HX2 : Hid (Bx ((w.alloc (.cells [.int .i64 0, .int .i64 0, .int .i64 0, .slice none 0 0, .int .i64 0, .int .i64 0, .slice none 0 0].toArray 77)).alloc (.cells [.int .i64 5, .int .i64 i, .int .i64 0, .slice none 0 0, .int .i64 0, .int .i64 0, (.slice none 0 0)].toArray 77)) (w.heap.size + 1) [.int .i64 5, .int .i64 i, .int .i64 0, .slice none 0 0, .int .i64 0, .int .i64 0, (.slice none 0 0)]) := Bx.new (w.alloc (.cells [.int .i64 0, .int .i64 0, .int .i64 0, .slice none 0 0, .int .i64 0, .int .i64 0, .slice none 0 0].toArray 77)) (w.heap.size + 1) _ 77 (by simp)
      have HR2 : Hid (Bx ((w.alloc (.cells [.int .i64 0, .int .i64 0, .int .i64 0, .slice none 0 0, .int .i64 0, .int .i64 0, .slice none 0 0].toArray 77)).alloc (.cells [.int .i64 5, .int .i64 i, .int .i64 0, .slice none 0 0, .int .i64 0, .int .i64 0, (.slice none 0 0)].toArray 77)) w.heap.size [.int .i64 0, .int .i64 0, .int .i64 0, .slice none 0 0, .int .i64 0, .int .i64 0, .slice none 0 0]) := (Bx.new w w.heap.size _ 77 rfl).below (bl_a _)
      have HW2 : Hid (Below w.heap.size w ((w.alloc (.cells [.int .i64 0, .int .i64 0, .int .i64 0, .slice none 0 0, .int .i64 0, .int .i64 0, .slice none 0 0].toArray 77)).alloc (.cells [.int .i64 5, .int .i64 i, .int .i64 0, .slice none 0 0, .int .i64 0, .int .i64 0, (.slice none 0 0)].toArray 77))) := bl_alloc (bl_a _) _
      have hsd : ({ data := #[46, 123, 125, 40, 41, 42, 43, 45, 47, 61, 60, 38, 124] } : ByteArray) = signM := rfl
      rw [hsd]
      clear hsd hc1
      generalize ((w.alloc (.cells [.int .i64 0, .int .i64 0, .int .i64 0, .slice none 0 0, .int .i64 0, .int .i64 0, .slice none 0 0].toArray 77)).alloc (.cells [.int .i64 5, .int .i64 i, .int .i64 0, .slice none 0 0, .int .i64 0, .int .i64 0, (.slice none 0 0)].toArray 77)) = w2 at *
      go_loop [10] (fun kv => ∃ k : Nat, k ≤ 13 ∧ kv = .int .i64 k ∧ Hid (∀ j (hj : j < signM.size), j < k → ((signM[j].toNat : Nat) : Int) ≠ c)) (fun kv => 13 - (intOf kv).toNat)
      case atStart => exact ⟨0, by omega, rfl, fun j _ h => by omega⟩
      case round =>
        obtain ⟨k, hk, rfl, HH⟩ := hrel
        by_cases hlt : k < 13
        · have hks : k < signM.size := by omega
          have hltz : (k : Int) < 13 := by omega
          obtain ⟨x, hx⟩ : ∃ x, ((signM[k].toNat : Nat) : Int) = x := ⟨_, rfl⟩
          by_cases hxc : x = c
          · have HSG : Hid (signB c = true) := by
              show _ = _
              rw [← hxc]
              exact sign_at hks hx
            have hxb : (x == c) = true := by simp [hxc]
            clear HH hxc
            have HX5 : Hid (Bx (w2.alloc (.cells #[.int .u8 c] 5)) (w.heap.size + 1) [.int .i64 5, .int .i64 i, .int .i64 0, .slice none 0 0, .int .i64 0, .int .i64 0, (.slice none 0 0)]) := HX2.out.below (bl_a _)
            have HR5 : Hid (Bx (w2.alloc (.cells #[.int .u8 c] 5)) w.heap.size [.int .i64 0, .int .i64 0, .int .i64 0, .slice none 0 0, .int .i64 0, .int .i64 0, .slice none 0 0]) := HR2.out.below (bl_a _)
            have HW5 : Hid (Below w.heap.size w (w2.alloc (.cells #[.int .u8 c] 5))) := bl_trans HW2.out (bl_a _)
            have xf6 := HX5.out.f 6 (by simp)
            obtain ⟨z0, z1, z2, z3, z4, z5, z6⟩ := bx7 HX5.out
            obtain ⟨y0, y1, y2, y3, y4, y5, y6⟩ := bx7 HR5.out
            obtain ⟨e0, e1, e2, e3, e4, e5, e6⟩ := bx7f HR5.out
            go_wp2_with fail
            have hl5 : (⟨5, i, ⟨0, none, 0, 0, 0, 0⟩, [], some ⟨w2.heap.size, 0, none⟩, 1, 1, [c]⟩ : MT).lies ((w2.alloc (.cells #[.int .u8 c] 5)).setCell ⟨w.heap.size + 1, 6, none⟩ (.slice (some ⟨w2.heap.size, 0, none⟩) 1 1)) := (⟨Bs0.nil _ _, Bs0.one w2 c ⟨c0, c1⟩, fits0 _ _ _ _⟩ : (⟨5, i, ⟨0, none, 0, 0, 0, 0⟩, [], some ⟨w2.heap.size, 0, none⟩, 1, 1, [c]⟩ : MT).lies (w2.alloc (.cells #[.int .u8 c] 5))).set z0 (not_u8 _) 6 _
            have hF := fin7 (m := ⟨5, i, ⟨0, none, 0, 0, 0, 0⟩, [], some ⟨w2.heap.size, 0, none⟩, 1, 1, [c]⟩) (rb := w.heap.size) (Nat.le_refl _) (HR5.out.other 6 (.slice (some ⟨w2.heap.size, 0, none⟩) 1 1) (c := w.heap.size + 1) (by omega)) hl5 (HW5.out.setCell (p := ⟨w.heap.size + 1, 6, none⟩) (by show w.heap.size ≤ w.heap.size + 1; omega) _)
            have HTT : Hid (∃ t, tokOther (bs.drop i) = some t ∧ (⟨5, i, ⟨0, none, 0, 0, 0, 0⟩, [], some ⟨w2.heap.size, 0, none⟩, 1, 1, [c]⟩ : MT).is i t ∧ (i : Int) + 1 = ((i + t.raw.length : Nat) : Int)) := by
              refine ⟨⟨3, [c], td0⟩, ?_, ⟨rfl, rfl, fun h => (by cases h), rfl⟩, rfl⟩
              rw [HO.out, if_pos HSG.out]
            refine bodyPost_ret (v := .tuple #[.agg #[.int .i64 5, .int .i64 i, .int .i64 0, .slice none 0 0, .int .i64 0, .int .i64 0, .slice (some ⟨w2.heap.size, 0, none⟩) 1 1], .int .i64 ((i : Int) + 1)]) (by simp [results, Tryz.results125, go_sem, *]) rfl ⟨⟨⟨5, i, ⟨0, none, 0, 0, 0, 0⟩, [], some ⟨w2.heap.size, 0, none⟩, 1, 1, [c]⟩, _, rfl, hF.1, .inl HTT.out⟩, hF.2⟩
          · have HH2 : Hid (∀ j (hj : j < signM.size), j < k + 1 → ((signM[j].toNat : Nat) : Int) ≠ c) := fun j hj hjk => by
              by_cases e : j = k
              · subst e
                rw [hx]
                exact hxc
              · exact HH.out j hj (by omega)
            have hxb : (x == c) = false := by simp [hxc]
            clear HH hxc
            go_wp2_with fail
            go_round
            case rel => exact ⟨k + 1, by omega, by go_num, HH2⟩
            case measure => simp [intOf]; omega
        · have hltz : ¬ (k : Int) < 13 := by omega
          have HNO : Hid (tokOther (bs.drop i) = none) := by
            show _ = _
            rw [HO.out, sign_not (fun j hj => HH.out j hj (by omega))]
            rfl
          clear HH
          obtain ⟨z0, z1, z2, z3, z4, z5, z6⟩ := bx7 HX2.out
          obtain ⟨y0, y1, y2, y3, y4, y5, y6⟩ := bx7 HR2.out
          obtain ⟨e0, e1, e2, e3, e4, e5, e6⟩ := bx7f HR2.out
          have HFIN : Hid ((⟨5, i, ⟨0, none, 0, 0, 0, 0⟩, [], none, 0, 0, []⟩ : MT).lies _ ∧ Below w.heap.size w _) := fin7 (m := ⟨5, i, ⟨0, none, 0, 0, 0, 0⟩, [], none, 0, 0, []⟩) (Nat.le_refl _) HR2.out ⟨Bs0.nil _ _, Bs0.nil _ _, fits0 _ _ _ _⟩ HW2.out
          go_wp2_with fail
          refine bodyPost_ret (v := .tuple #[.agg #[.int .i64 5, .int .i64 i, .int .i64 0, .slice none 0 0, .int .i64 0, .int .i64 0, .slice none 0 0], .int .i64 (-1)]) (by simp [results, Tryz.results125, go_sem, *]) rfl ⟨⟨⟨5, i, ⟨0, none, 0, 0, 0, 0⟩, [], none, 0, 0, []⟩, _, rfl, HFIN.out.1, .inr ⟨HNO.out, rfl⟩⟩, HFIN.out.2⟩
    · have h90 : True := trivial
      go_enter Tryz.func125, Tryz.ntmps125
      go_wp2_with fail
      have HX2 : Hid (Bx ((w.alloc (.cells [.int .i64 0, .int .i64 0, .int .i64 0, .slice none 0 0, .int .i64 0, .int .i64 0, .slice none 0 0].toArray 77)).alloc (.cells [.int .i64 5, .int .i64 i, .int .i64 0, .slice none 0 0, .int .i64 0, .int .i64 0, (.slice none 0 0)].toArray 77)) (w.heap.size + 1) [.int .i64 5, .int .i64 i, .int .i64 0, .slice none 0 0, .int .i64 0, .int .i64 0, (.slice none 0 0)]) := Bx.new (w.alloc (.cells [.int .i64 0, .int .i64 0, .int .i64 0, .slice none 0 0, .int .i64 0, .int .i64 0, .slice none 0 0].toArray 77)) (w.heap.size + 1) _ 77 (by simp)
      have HR2 : Hid (Bx ((w.alloc (.cells [.int .i64 0, .int .i64 0, .int .i64 0, .slice none 0 0, .int .i64 0, .int .i64 0, .slice none 0 0].toArray 77)).alloc (.cells [.int .i64 5, .int .i64 i, .int .i64 0, .slice none 0 0, .int .i64 0, .int .i64 0, (.slice none 0 0)].toArray 77)) w.heap.size [.int .i64 0, .int .i64 0, .int .i64 0, .slice none 0 0, .int .i64 0, .int .i64 0, .slice none 0 0]) := (Bx.new w w.heap.size _ 77 rfl).below (bl_a _)
      have HW2 : Hid (Below w.heap.size w ((w.alloc (.cells [.int .i64 0, .int .i64 0, .int .i64 0, .slice none 0 0, .int .i64 0, .int .i64 0, .slice none 0 0].toArray 77)).alloc (.cells [.int .i64 5, .int .i64 i, .int .i64 0, .slice none 0 0, .int .i64 0, .int .i64 0, (.slice none 0 0)].toArray 77))) := bl_alloc (bl_a _) _
      have hsd : ({ data := #[46, 123, 125, 40, 41, 42, 43, 45, 47, 61, 60, 38, 124] } : ByteArray) = signM := rfl
      rw [hsd]
      clear hsd hc1
      generalize ((w.alloc (.cells [.int .i64 0, .int .i64 0, .int .i64 0, .slice none 0 0, .int .i64 0, .int .i64 0, .slice none 0 0].toArray 77)).alloc (.cells [.int .i64 5, .int .i64 i, .int .i64 0, .slice none 0 0, .int .i64 0, .int .i64 0, (.slice none 0 0)].toArray 77)) = w2 at *
      go_loop [10] (fun kv => ∃ k : Nat, k ≤ 13 ∧ kv = .int .i64 k ∧ Hid (∀ j (hj : j < signM.size), j < k → ((signM[j].toNat : Nat) : Int) ≠ c)) (fun kv => 13 - (intOf kv).toNat)
      case atStart => exact ⟨0, by omega, rfl, fun j _ h => by omega⟩
      case round =>
        obtain ⟨k, hk, rfl, HH⟩ := hrel
        by_cases hlt : k < 13
        · have hks : k < signM.size := by omega
          have hltz : (k : Int) < 13 := by omega
          obtain ⟨x, hx⟩ : ∃ x, ((signM[k].toNat : Nat) : Int) = x := ⟨_, rfl⟩
          by_cases hxc : x = c
          · have HSG : Hid (signB c = true) := by
              show _ = _
              rw [← hxc]
              exact sign_at hks hx
            have hxb : (x == c) = true := by simp [hxc]
            clear HH hxc
            have HX5 : Hid (Bx (w2.alloc (.cells #[.int .u8 c] 5)) (w.heap.size + 1) [.int .i64 5, .int .i64 i, .int .i64 0, .slice none 0 0, .int .i64 0, .int .i64 0, (.slice none 0 0)]) := HX2.out.below (bl_a _)
            have HR5 : Hid (Bx (w2.alloc (.cells #[.int .u8 c] 5)) w.heap.size [.int .i64 0, .int .i64 0, .int .i64 0, .slice none 0 0, .int .i64 0, .int .i64 0, .slice none 0 0]) := HR2.out.below (bl_a _)
            have HW5 : Hid (Below w.heap.size w (w2.alloc (.cells #[.int .u8 c] 5))) := bl_trans HW2.out (bl_a _)
            have xf6 := HX5.out.f 6 (by simp)
            obtain ⟨z0, z1, z2, z3, z4, z5, z6⟩ := bx7 HX5.out
            obtain ⟨y0, y1, y2, y3, y4, y5, y6⟩ := bx7 HR5.out
            obtain ⟨e0, e1, e2, e3, e4, e5, e6⟩ := bx7f HR5.out
            go_wp2_with fail
            have hl5 : (⟨5, i, ⟨0, none, 0, 0, 0, 0⟩, [], some ⟨w2.heap.size, 0, none⟩, 1, 1, [c]⟩ : MT).lies ((w2.alloc (.cells #[.int .u8 c] 5)).setCell ⟨w.heap.size + 1, 6, none⟩ (.slice (some ⟨w2.heap.size, 0, none⟩) 1 1)) := (⟨Bs0.nil _ _, Bs0.one w2 c ⟨c0, c1⟩, fits0 _ _ _ _⟩ : (⟨5, i, ⟨0, none, 0, 0, 0, 0⟩, [], some ⟨w2.heap.size, 0, none⟩, 1, 1, [c]⟩ : MT).lies (w2.alloc (.cells #[.int .u8 c] 5))).set z0 (not_u8 _) 6 _
            have hF := fin7 (m := ⟨5, i, ⟨0, none, 0, 0, 0, 0⟩, [], some ⟨w2.heap.size, 0, none⟩, 1, 1, [c]⟩) (rb := w.heap.size) (Nat.le_refl _) (HR5.out.other 6 (.slice (some ⟨w2.heap.size, 0, none⟩) 1 1) (c := w.heap.size + 1) (by omega)) hl5 (HW5.out.setCell (p := ⟨w.heap.size + 1, 6, none⟩) (by show w.heap.size ≤ w.heap.size + 1; omega) _)
            have HTT : Hid (∃ t, tokOther (bs.drop i) = some t ∧ (⟨5, i, ⟨0, none, 0, 0, 0, 0⟩, [], some ⟨w2.heap.size, 0, none⟩, 1, 1, [c]⟩ : MT).is i t ∧ (i : Int) + 1 = ((i + t.raw.length : Nat) : Int)) := by
              refine ⟨⟨3, [c], td0⟩, ?_, ⟨rfl, rfl, fun h => (by cases h), rfl⟩, rfl⟩
              rw [HO.out, if_pos HSG.out]
            refine bodyPost_ret (v := .tuple #[.agg #[.int .i64 5, .int .i64 i, .int .i64 0, .slice none 0 0, .int .i64 0, .int .i64 0, .slice (some ⟨w2.heap.size, 0, none⟩) 1 1], .int .i64 ((i : Int) + 1)]) (by simp [results, Tryz.results125, go_sem, *]) rfl ⟨⟨⟨5, i, ⟨0, none, 0, 0, 0, 0⟩, [], some ⟨w2.heap.size, 0, none⟩, 1, 1, [c]⟩, _, rfl, hF.1, .inl HTT.out⟩, hF.2⟩
          · have HH2 : Hid (∀ j (hj : j < signM.size), j < k + 1 → ((signM[j].toNat : Nat) : Int) ≠ c) := fun j hj hjk => by
              by_cases e : j = k
              · subst e
                rw [hx]
                exact hxc
              · exact HH.out j hj (by omega)
            have hxb : (x == c) = false := by simp [hxc]
            clear HH hxc
            go_wp2_with fail
            go_round
            case rel => exact ⟨k + 1, by omega, by go_num, HH2⟩
            case measure => simp [intOf]; omega
        · have hltz : ¬ (k : Int) < 13 := by omega
          have HNO : Hid (tokOther (bs.drop i) = none) := by
            show _ = _
            rw [HO.out, sign_not (fun j hj => HH.out j hj (by omega))]
            rfl
          clear HH
          obtain ⟨z0, z1, z2, z3, z4, z5, z6⟩ := bx7 HX2.out
          obtain ⟨y0, y1, y2, y3, y4, y5, y6⟩ := bx7 HR2.out
          obtain ⟨e0, e1, e2, e3, e4, e5, e6⟩ := bx7f HR2.out
          have HFIN : Hid ((⟨5, i, ⟨0, none, 0, 0, 0, 0⟩, [], none, 0, 0, []⟩ : MT).lies _ ∧ Below w.heap.size w _) := fin7 (m := ⟨5, i, ⟨0, none, 0, 0, 0, 0⟩, [], none, 0, 0, []⟩) (Nat.le_refl _) HR2.out ⟨Bs0.nil _ _, Bs0.nil _ _, fits0 _ _ _ _⟩ HW2.out
          go_wp2_with fail
          refine bodyPost_ret (v := .tuple #[.agg #[.int .i64 5, .int .i64 i, .int .i64 0, .slice none 0 0, .int .i64 0, .int .i64 0, .slice none 0 0], .int .i64 (-1)]) (by simp [results, Tryz.results125, go_sem, *]) rfl ⟨⟨⟨5, i, ⟨0, none, 0, 0, 0, 0⟩, [], none, 0, 0, []⟩, _, rfl, HFIN.out.1, .inr ⟨HNO.out, rfl⟩⟩, HFIN.out.2⟩
end Go.Proofs.YtoclingolfdfeaaGreatDoor
