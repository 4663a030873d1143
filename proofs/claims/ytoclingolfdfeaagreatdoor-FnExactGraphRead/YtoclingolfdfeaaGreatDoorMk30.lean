/- Texts put together: LxJ7 LxJ8 LxK LxL ReI GtxA GtxB ShwK ReK -/
import Derived.Test.YtoclingolfdfeaaGreatDoorMk23
import Derived.Test.YtoclingolfdfeaaGreatDoorMk27
import Derived.Test.YtoclingolfdfeaaGreatDoorMk28
import Derived.Test.YtoclingolfdfeaaGreatDoorMk29
import Derived.Test.YtoclingolfdfeaaGreatDoorMk04
import Derived.Deep.Upon
import Derived.Test.YtoclingolfdfeaaGreatDoorMk25
import Derived.Test.YtoclingolfdfeaaGreatDoorMk10
import Derived.Test.YtoclingolfdfeaaGreatDoorMk08
import Derived.Test.YtoclingolfdfeaaGreatDoorMk03
import Derived.Deep.RegionWith
import Derived.Lib.AppendStr
import Derived.Deep.RegionHeld3
/- LxJ7 -/
namespace Go.Proofs.YtoclingolfdfeaaGreatDoor
open Go.RowKit Go.Deep
set_option maxRecDepth 100000

set_option maxHeartbeats 16000000 in
theorem l2one_under (b0 off0 len cap : Nat) (bs : List Int) (i : Nat) (w : World) (hB : Bs w (some ⟨b0, off0, none⟩) len bs) (hl3 : len ≤ 100000) (hcap : len ≤ cap) (hi : i < len) (hch : bs[i]? = some 95) (hdg : (bs.drop (i + 1))[0]? ≠ some 58) :
    Calls Tryz.prog 81 #[.slice (some ⟨b0, off0, none⟩) len cap, .int .i64 i] w (TokA (tokOf (bs.drop i)) i w) := by
  have HB : Hid (Bs w (some ⟨b0, off0, none⟩) len bs) := hB
  have HN : Hid (bs.length = len) := hB.1
  obtain ⟨b0', off0', c, e0, hc, hd, c0, c1⟩ := hB.byte hi
  cases e0
  have HD : Hid (bs.drop i = c :: bs.drop (i + 1)) := hd
  have hiz : (i : Int) < (len : Int) := by omega
  have hic : i ≤ cap := by omega
  have hicn : ¬ cap = i := by omega
  have hc1 : (w.alloc (.cells [.int .i64 0, .int .i64 0, .int .i64 0, .slice none 0 0, .int .i64 0, .int .i64 0, .slice none 0 0].toArray 77)).cell? ⟨b0, off0 + i, none⟩ = some (.int .u8 c) := ((bl_a (w := w) _).cell (p := ⟨b0, off0 + i, none⟩) (cell_ltC hc)).trans hc
  have HW2 : Hid (Below w.heap.size w ((w.alloc (.cells [.int .i64 0, .int .i64 0, .int .i64 0, .slice none 0 0, .int .i64 0, .int .i64 0, .slice none 0 0].toArray 77)).alloc (.cells [.int .i64 1, .int .i64 i, .int .i64 0, .slice none 0 0, .int .i64 0, .int .i64 0, .slice none 0 0].toArray 77))) := bl_alloc (bl_a _) _
  have HX2 : Hid (Bx ((w.alloc (.cells [.int .i64 0, .int .i64 0, .int .i64 0, .slice none 0 0, .int .i64 0, .int .i64 0, .slice none 0 0].toArray 77)).alloc (.cells [.int .i64 1, .int .i64 i, .int .i64 0, .slice none 0 0, .int .i64 0, .int .i64 0, .slice none 0 0].toArray 77)) (w.heap.size + 1) [.int .i64 1, .int .i64 i, .int .i64 0, .slice none 0 0, .int .i64 0, .int .i64 0, .slice none 0 0]) := Bx.new (w.alloc (.cells [.int .i64 0, .int .i64 0, .int .i64 0, .slice none 0 0, .int .i64 0, .int .i64 0, .slice none 0 0].toArray 77)) (w.heap.size + 1) _ 77 (by simp)
  have HR2 : Hid (Bx ((w.alloc (.cells [.int .i64 0, .int .i64 0, .int .i64 0, .slice none 0 0, .int .i64 0, .int .i64 0, .slice none 0 0].toArray 77)).alloc (.cells [.int .i64 1, .int .i64 i, .int .i64 0, .slice none 0 0, .int .i64 0, .int .i64 0, .slice none 0 0].toArray 77)) w.heap.size [.int .i64 0, .int .i64 0, .int .i64 0, .slice none 0 0, .int .i64 0, .int .i64 0, .slice none 0 0]) := (Bx.new w w.heap.size _ 77 rfl).below (bl_a _)
  have e0c : bs[i]? = (bs.drop i)[0]? := by rw [List.getElem?_drop]; rfl
  have hcc : c = 95 := by
    rw [e0c, hd] at hch
    exact Option.some.inj hch
  subst hcc
  clear e0c hch
  have HEQ : Hid (tokOther (bs.drop i) = tokOf (bs.drop i)) := by
    show _ = _
    rw [hd]
    simp [tokOther, tokOf, great, digit, signB]
    rw [List.getElem?_drop, Nat.add_zero] at hdg
    intro h
    exact absurd h hdg
  have CT : Hid (Calls Tryz.prog 125 #[.slice (some ⟨b0, off0, none⟩) len cap, .int .i64 i] ((w.alloc (.cells [.int .i64 0, .int .i64 0, .int .i64 0, .slice none 0 0, .int .i64 0, .int .i64 0, .slice none 0 0].toArray 77)).alloc (.cells [.int .i64 1, .int .i64 i, .int .i64 0, .slice none 0 0, .int .i64 0, .int .i64 0, .slice none 0 0].toArray 77)) (TokA (tokOf (bs.drop i)) i ((w.alloc (.cells [.int .i64 0, .int .i64 0, .int .i64 0, .slice none 0 0, .int .i64 0, .int .i64 0, .slice none 0 0].toArray 77)).alloc (.cells [.int .i64 1, .int .i64 i, .int .i64 0, .slice none 0 0, .int .i64 0, .int .i64 0, .slice none 0 0].toArray 77)))) := by
    have h := l2other_any _ len cap bs i _ (hB.below HW2.out) hl3 hcap hi
    rwa [HEQ.out] at h
  clear hB hd hc
  by_cases hi1 : i + 1 < len
  · obtain ⟨b1', off1', y, e1, hy, hdy, y0', y1'⟩ := HB.out.byte hi1
    cases e1
    have hy2 : ((w.alloc (.cells [.int .i64 0, .int .i64 0, .int .i64 0, .slice none 0 0, .int .i64 0, .int .i64 0, .slice none 0 0].toArray 77)).alloc (.cells [.int .i64 1, .int .i64 i, .int .i64 0, .slice none 0 0, .int .i64 0, .int .i64 0, .slice none 0 0].toArray 77)).cell? ⟨b0, off0 + (i + 1), none⟩ = some (.int .u8 y) := (HW2.out.cell (p := ⟨b0, off0 + (i + 1), none⟩) (cell_ltC hy)).trans hy
    have hi1z : (i : Int) + 1 < (len : Int) := by omega
    have hi0z : (0 : Int) ≤ (i : Int) + 1 := by omega
    have hy58 : (y == 58) = false := by
      rw [hdy] at hdg
      simpa using hdg
    clear hdy hy hdg
    go_enter Tryz.func81, Tryz.ntmps81
    go_wp2_with fail
    refine CT.out.mono ?_
    rintro e w3 ⟨⟨m, en, rfl, hl, hor⟩, hb3⟩
    have HOR : Hid _ := hor
    have HL : Hid (m.lies w3) := hl
    have HW3 : Hid (Below w.heap.size w w3) := HW2.out.trans (hb3.mono HW2.out.size)
    have HR3 : Hid (Bx w3 w.heap.size [.int .i64 0, .int .i64 0, .int .i64 0, .slice none 0 0, .int .i64 0, .int .i64 0, .slice none 0 0]) := HR2.out.below hb3
    obtain ⟨y0, y1, y2, y3, y4, y5, y6⟩ := bx7 HR3.out
    obtain ⟨e0, e1, e2, e3, e4, e5, e6⟩ := bx7f HR3.out
    simp only [eM]
    clear hl hor hb3 CT
    go_wp2_with fail
    have hF := fin7 (m := m) (rb := w.heap.size) (Nat.le_refl _) HR3.out HL.out HW3.out
    refine bodyPost_ret (v := .tuple #[.agg #[.int .i64 m.kind, .int .i64 m.p, .int .i64 m.t.k, .slice m.t.a m.t.len m.t.cap, .int .i64 m.t.n, .int .i64 m.t.s, .slice m.xa m.xl m.xc], .int .i64 en]) (by simp [results, Tryz.results81, go_sem, *]) rfl ⟨⟨m, en, rfl, hF.1, HOR.out⟩, hF.2⟩
  · have hi1z : ¬ (i : Int) + 1 < (len : Int) := by omega
    go_enter Tryz.func81, Tryz.ntmps81
    go_wp2_with fail
    refine CT.out.mono ?_
    rintro e w3 ⟨⟨m, en, rfl, hl, hor⟩, hb3⟩
    have HOR : Hid _ := hor
    have HL : Hid (m.lies w3) := hl
    have HW3 : Hid (Below w.heap.size w w3) := HW2.out.trans (hb3.mono HW2.out.size)
    have HR3 : Hid (Bx w3 w.heap.size [.int .i64 0, .int .i64 0, .int .i64 0, .slice none 0 0, .int .i64 0, .int .i64 0, .slice none 0 0]) := HR2.out.below hb3
    obtain ⟨y0, y1, y2, y3, y4, y5, y6⟩ := bx7 HR3.out
    obtain ⟨e0, e1, e2, e3, e4, e5, e6⟩ := bx7f HR3.out
    simp only [eM]
    clear hl hor hb3 CT
    go_wp2_with fail
    have hF := fin7 (m := m) (rb := w.heap.size) (Nat.le_refl _) HR3.out HL.out HW3.out
    refine bodyPost_ret (v := .tuple #[.agg #[.int .i64 m.kind, .int .i64 m.p, .int .i64 m.t.k, .slice m.t.a m.t.len m.t.cap, .int .i64 m.t.n, .int .i64 m.t.s, .slice m.xa m.xl m.xc], .int .i64 en]) (by simp [results, Tryz.results81, go_sem, *]) rfl ⟨⟨m, en, rfl, hF.1, HOR.out⟩, hF.2⟩
end Go.Proofs.YtoclingolfdfeaaGreatDoor

/- LxJ8 -/
namespace Go.Proofs.YtoclingolfdfeaaGreatDoor
open Go.RowKit Go.Deep
set_option maxRecDepth 100000

set_option maxHeartbeats 16000000 in
theorem l2one_rest (b0 off0 len cap : Nat) (bs : List Int) (i : Nat) (w : World) (hB : Bs w (some ⟨b0, off0, none⟩) len bs) (hl3 : len ≤ 100000) (hcap : len ≤ cap) (hi : i < len) {d : Int} (hch : bs[i]? = some d) (hnd : d < 48 ∨ 57 < d) (h45 : d ≠ 45) (h60 : d ≠ 60) (h34 : d ≠ 34) (h95 : d ≠ 95) (h63 : d ≠ 63) :
    Calls Tryz.prog 81 #[.slice (some ⟨b0, off0, none⟩) len cap, .int .i64 i] w (TokA (tokOf (bs.drop i)) i w) := by
  have HB : Hid (Bs w (some ⟨b0, off0, none⟩) len bs) := hB
  have HN : Hid (bs.length = len) := hB.1
  obtain ⟨b0', off0', c, e0, hc, hd, c0, c1⟩ := hB.byte hi
  cases e0
  have HD : Hid (bs.drop i = c :: bs.drop (i + 1)) := hd
  have hiz : (i : Int) < (len : Int) := by omega
  have hic : i ≤ cap := by omega
  have hicn : ¬ cap = i := by omega
  have hc1 : (w.alloc (.cells [.int .i64 0, .int .i64 0, .int .i64 0, .slice none 0 0, .int .i64 0, .int .i64 0, .slice none 0 0].toArray 77)).cell? ⟨b0, off0 + i, none⟩ = some (.int .u8 c) := ((bl_a (w := w) _).cell (p := ⟨b0, off0 + i, none⟩) (cell_ltC hc)).trans hc
  have HW2 : Hid (Below w.heap.size w ((w.alloc (.cells [.int .i64 0, .int .i64 0, .int .i64 0, .slice none 0 0, .int .i64 0, .int .i64 0, .slice none 0 0].toArray 77)).alloc (.cells [.int .i64 1, .int .i64 i, .int .i64 0, .slice none 0 0, .int .i64 0, .int .i64 0, .slice none 0 0].toArray 77))) := bl_alloc (bl_a _) _
  have HX2 : Hid (Bx ((w.alloc (.cells [.int .i64 0, .int .i64 0, .int .i64 0, .slice none 0 0, .int .i64 0, .int .i64 0, .slice none 0 0].toArray 77)).alloc (.cells [.int .i64 1, .int .i64 i, .int .i64 0, .slice none 0 0, .int .i64 0, .int .i64 0, .slice none 0 0].toArray 77)) (w.heap.size + 1) [.int .i64 1, .int .i64 i, .int .i64 0, .slice none 0 0, .int .i64 0, .int .i64 0, .slice none 0 0]) := Bx.new (w.alloc (.cells [.int .i64 0, .int .i64 0, .int .i64 0, .slice none 0 0, .int .i64 0, .int .i64 0, .slice none 0 0].toArray 77)) (w.heap.size + 1) _ 77 (by simp)
  have HR2 : Hid (Bx ((w.alloc (.cells [.int .i64 0, .int .i64 0, .int .i64 0, .slice none 0 0, .int .i64 0, .int .i64 0, .slice none 0 0].toArray 77)).alloc (.cells [.int .i64 1, .int .i64 i, .int .i64 0, .slice none 0 0, .int .i64 0, .int .i64 0, .slice none 0 0].toArray 77)) w.heap.size [.int .i64 0, .int .i64 0, .int .i64 0, .slice none 0 0, .int .i64 0, .int .i64 0, .slice none 0 0]) := (Bx.new w w.heap.size _ 77 rfl).below (bl_a _)
  have e0c : bs[i]? = (bs.drop i)[0]? := by rw [List.getElem?_drop]; rfl
  have hcc : c = d := by
    rw [e0c, hd] at hch
    exact Option.some.inj hch
  subst hcc
  clear e0c hch
  have HEQ : Hid (tokOther (bs.drop i) = tokOf (bs.drop i)) := by
    show _ = _
    rw [hd]
    have hdg : digit c = false := by simp [digit]; omega
    simp [tokOther, tokOf, hdg, h45, h60, h34, h95, h63]
  have h45b : (c == 45) = false := by simp [h45]
  have h60b : (c == 60) = false := by simp [h60]
  have h34b : (c == 34) = false := by simp [h34]
  have h95b : (c == 95) = false := by simp [h95]
  have h63b : (c == 63) = false := by simp [h63]
  have CT : Hid (Calls Tryz.prog 125 #[.slice (some ⟨b0, off0, none⟩) len cap, .int .i64 i] ((w.alloc (.cells [.int .i64 0, .int .i64 0, .int .i64 0, .slice none 0 0, .int .i64 0, .int .i64 0, .slice none 0 0].toArray 77)).alloc (.cells [.int .i64 1, .int .i64 i, .int .i64 0, .slice none 0 0, .int .i64 0, .int .i64 0, .slice none 0 0].toArray 77)) (TokA (tokOf (bs.drop i)) i ((w.alloc (.cells [.int .i64 0, .int .i64 0, .int .i64 0, .slice none 0 0, .int .i64 0, .int .i64 0, .slice none 0 0].toArray 77)).alloc (.cells [.int .i64 1, .int .i64 i, .int .i64 0, .slice none 0 0, .int .i64 0, .int .i64 0, .slice none 0 0].toArray 77)))) := by
    have h := l2other_any _ len cap bs i _ (hB.below HW2.out) hl3 hcap hi
    rwa [HEQ.out] at h
  clear hB hd hc
  clear h45 h60 h34 h95 h63
  rcases hnd with hnd | hnd
  · have h48 : ¬ 48 ≤ c := by omega
    go_enter Tryz.func81, Tryz.ntmps81
    go_wp2_with fail
    refine CT.out.mono ?_
    rintro e w3 ⟨⟨m, en, rfl, hl, hor⟩, hb3⟩
    have HOR : Hid _ := hor
    have HL : Hid (m.lies w3) := hl
    have HW3 : Hid (Below w.heap.size w w3) := HW2.out.trans (hb3.mono HW2.out.size)
    have HR3 : Hid (Bx w3 w.heap.size [.int .i64 0, .int .i64 0, .int .i64 0, .slice none 0 0, .int .i64 0, .int .i64 0, .slice none 0 0]) := HR2.out.below hb3
    obtain ⟨y0, y1, y2, y3, y4, y5, y6⟩ := bx7 HR3.out
    obtain ⟨e0, e1, e2, e3, e4, e5, e6⟩ := bx7f HR3.out
    simp only [eM]
    clear hl hor hb3 CT
    go_wp2_with fail
    have hF := fin7 (m := m) (rb := w.heap.size) (Nat.le_refl _) HR3.out HL.out HW3.out
    refine bodyPost_ret (v := .tuple #[.agg #[.int .i64 m.kind, .int .i64 m.p, .int .i64 m.t.k, .slice m.t.a m.t.len m.t.cap, .int .i64 m.t.n, .int .i64 m.t.s, .slice m.xa m.xl m.xc], .int .i64 en]) (by simp [results, Tryz.results81, go_sem, *]) rfl ⟨⟨m, en, rfl, hF.1, HOR.out⟩, hF.2⟩
  · have h48 : 48 ≤ c := by omega
    have h57 : ¬ c ≤ 57 := by omega
    go_enter Tryz.func81, Tryz.ntmps81
    go_wp2_with fail
    refine CT.out.mono ?_
    rintro e w3 ⟨⟨m, en, rfl, hl, hor⟩, hb3⟩
    have HOR : Hid _ := hor
    have HL : Hid (m.lies w3) := hl
    have HW3 : Hid (Below w.heap.size w w3) := HW2.out.trans (hb3.mono HW2.out.size)
    have HR3 : Hid (Bx w3 w.heap.size [.int .i64 0, .int .i64 0, .int .i64 0, .slice none 0 0, .int .i64 0, .int .i64 0, .slice none 0 0]) := HR2.out.below hb3
    obtain ⟨y0, y1, y2, y3, y4, y5, y6⟩ := bx7 HR3.out
    obtain ⟨e0, e1, e2, e3, e4, e5, e6⟩ := bx7f HR3.out
    simp only [eM]
    clear hl hor hb3 CT
    go_wp2_with fail
    have hF := fin7 (m := m) (rb := w.heap.size) (Nat.le_refl _) HR3.out HL.out HW3.out
    refine bodyPost_ret (v := .tuple #[.agg #[.int .i64 m.kind, .int .i64 m.p, .int .i64 m.t.k, .slice m.t.a m.t.len m.t.cap, .int .i64 m.t.n, .int .i64 m.t.s, .slice m.xa m.xl m.xc], .int .i64 en]) (by simp [results, Tryz.results81, go_sem, *]) rfl ⟨⟨m, en, rfl, hF.1, HOR.out⟩, hF.2⟩
end Go.Proofs.YtoclingolfdfeaaGreatDoor

/- LxK -/
namespace Go.Proofs.YtoclingolfdfeaaGreatDoor
open Go.RowKit Go.Deep
set_option maxRecDepth 100000

theorem l2one_any (a : Option Addr) (len cap : Nat) (bs : List Int) (i : Nat) (w : World) (hB : Bs w a len bs) (hl3 : len ≤ 100000) (hcap : len ≤ cap) (hi : i < len) :
    Calls Tryz.prog 81 #[.slice a len cap, .int .i64 i] w (TokA (tokOf (bs.drop i)) i w) := by
  obtain ⟨b0, off0, c, rfl, _, hd, _, _⟩ := hB.byte hi
  have hc : bs[i]? = some c := by
    have e : bs[i]? = (bs.drop i)[0]? := by rw [List.getElem?_drop]; rfl
    rw [e, hd]
    rfl
  by_cases hdg : 48 ≤ c ∧ c ≤ 57
  · exact l2one_digit b0 off0 len cap bs i w hB hl3 hcap hi ⟨hc, hdg.1, hdg.2⟩
  by_cases h45 : c = 45
  · subst h45
    cases hq : digitHd (bs.drop (i + 1)) with
    | true => exact l2one_minus b0 off0 len cap bs i w hB hl3 hcap hi hc hq
    | false => exact l2one_sub b0 off0 len cap bs i w hB hl3 hcap hi hc hq
  by_cases h60 : c = 60
  · subst h60
    exact l2one_name b0 off0 len cap bs i w hB hl3 hcap hi hc
  by_cases h34 : c = 34
  · subst h34
    exact l2one_quote b0 off0 len cap bs i w hB hl3 hcap hi hc
  by_cases h95 : c = 95
  · subst h95
    by_cases h58 : (bs.drop (i + 1))[0]? = some 58
    · exact l2one_blank b0 off0 len cap bs i w hB hl3 hcap hi hc h58
    · exact l2one_under b0 off0 len cap bs i w hB hl3 hcap hi hc h58
  by_cases h63 : c = 63
  · subst h63
    exact l2one_var b0 off0 len cap bs i w hB hl3 hcap hi hc
  exact l2one_rest b0 off0 len cap bs i w hB hl3 hcap hi hc (by omega) h45 h60 h34 h95 h63

theorem eM_len (m : MT) : (eM m).length = 7 := rfl
def flatM (l : List MT) : List Value := l.flatMap eM
theorem flatM_len (l : List MT) : (flatM l).length = l.length * 7 := flatMap_len eM 7 eM_len l
theorem flatM_append (l m : List MT) : flatM (l ++ m) = flatM l ++ flatM m := by simp [flatM]
theorem flatM_get (l : List MT) (i c : Nat) (hi : i < l.length) (hc : c < 7) : (flatM l)[i * 7 + c]? = (eM l[i])[c]? := flatMap_get eM 7 eM_len l i c hi hc
theorem flatM_one (l : List MT) : ∀ u ∈ flatM l, u.oneCell' = true := by
  intro u hu
  obtain ⟨x, _, hx⟩ := List.mem_flatMap.1 hu
  simp only [eM, List.mem_cons, List.not_mem_nil, or_false] at hx
  rcases hx with rfl | rfl | rfl | rfl | rfl | rfl | rfl <;> rfl
/-- A row of tokens of the call's own; nil where there are none. -/
structure OwnM (w : World) (B : Nat) (v : Value) (l : List MT) : Prop where
  own : w.ownsRow B 77 7 v l.length (flatM l)
  lo : ∀ g, v.ownBlock = some g → B ≤ g ∧ g < w.heap.size
  nil : l = [] → v = .slice none 0 0
theorem OwnM.empty (w : World) (B : Nat) : OwnM w B (.slice none 0 0) [] := ⟨World.ownsRow_nil _ _ _ _, fun g h => (by cases h), fun _ => rfl⟩
theorem OwnM.below {w w' : World} {B : Nat} {v : Value} {l : List MT} (h : OwnM w B v l) (hb : Below w.heap.size w w') : OwnM w' B v l := by
  obtain ⟨⟨h1, h2⟩, hl, hn⟩ := h
  refine ⟨⟨h1, ?_⟩, fun c hc => ⟨(hl c hc).1, Nat.lt_of_lt_of_le (hl c hc).2 hb.size⟩, hn⟩
  rcases h2 with h2 | ⟨g', cap', cur, hv, hB, hh, r⟩
  · exact .inl h2
  · refine .inr ⟨g', cap', cur, hv, hB, ?_, r⟩
    rw [hb.block g' (hl g' (by rw [hv]; rfl)).2]
    exact hh
theorem OwnM.form {w : World} {B : Nat} {v : Value} {l : List MT} (h : OwnM w B v l) : (v = .slice none 0 0 ∧ l = []) ∨ ∃ g cap, v = .slice (some ⟨g, 0, none⟩) l.length cap ∧ B ≤ g ∧ g < w.heap.size ∧ l.length ≤ cap ∧ ∀ j u, (flatM l)[j]? = some u → w.cell? ⟨g, j, none⟩ = some u := by
  rcases h.own.2 with ⟨hv, h0⟩ | ⟨g, cap, cur, hv, hB, hh, hle, _, hsz, htk⟩
  · exact .inl ⟨hv, List.eq_nil_of_length_eq_zero h0⟩
  · refine .inr ⟨g, cap, hv, hB, (h.lo g (by rw [hv]; rfl)).2, hle, fun j u hu => ?_⟩
    have hj := (List.getElem?_eq_some_iff.1 hu).1
    rw [flatM_len] at hj
    rw [← htk, List.getElem?_take, if_pos hj] at hu
    simp only [World.cell?, hh]
    simpa using hu
/-- The cells of one of them. -/
theorem OwnM.at {w : World} {B : Nat} {v : Value} {l : List MT} (h : OwnM w B v l) {i : Nat} {m : MT} (hm : l[i]? = some m) : ∃ g cap, v = .slice (some ⟨g, 0, none⟩) l.length cap ∧ l.length ≤ cap ∧ ∀ c y, (eM m)[c]? = some y → w.cell? ⟨g, i * 7 + c, none⟩ = some y := by
  obtain ⟨hi, e⟩ := List.getElem?_eq_some_iff.1 hm
  rcases h.form with ⟨_, h0⟩ | ⟨g, cap, hv, _, _, hle, hc⟩
  · subst h0
    simp at hi
  · refine ⟨g, cap, hv, hle, fun c y hy => ?_⟩
    have hc7 : c < 7 := (List.getElem?_eq_some_iff.1 hy).1
    refine hc _ _ ?_
    rw [flatM_get l i c hi hc7, e]
    exact hy
/-- What was appended to leaves texts alone. -/
theorem Bs0.grown {w w' : World} {B : Nat} {v : Value} {l : List MT} (hO : OwnM w B v l) (hg : w.grownBy w' v.ownBlock) {a : Option Addr} {len : Nat} {bs : List Int} (h : Bs0 w a len bs) : Bs0 w' a len bs := by
  refine ⟨?_, h.2⟩
  obtain ⟨h1, h2, h3, h4⟩ := h.1
  by_cases h0 : len = 0
  · exact ⟨h1, h2, h3, .inl h0⟩
  obtain ⟨g, e2⟩ := h.2.resolve_left h0
  obtain ⟨b, off, e, hl, hc⟩ := h4.resolve_left h0
  rw [e2] at e
  simp only [Option.some.injEq, Addr.mk.injEq] at e
  obtain ⟨e3, e4, _⟩ := e
  subst e3 e4
  have hne : v.ownBlock ≠ some g := fun hv => by
    rcases hO.form with ⟨e, _⟩ | ⟨g', cap, e, _, _, _, hcs⟩
    · rw [e] at hv
      cases hv
    · rw [e] at hv
      have : g' = g := by simpa [Value.ownBlock] using hv
      subst this
      have hl0 : l ≠ [] := fun h => by
        rw [hO.nil h] at e
        cases e
      obtain ⟨m, r, rfl⟩ := List.exists_cons_of_ne_nil hl0
      have k1 := hcs 0 (.int .i64 m.kind) rfl
      have k2 := hc 0 (by omega)
      rw [Nat.add_zero, k1] at k2
      cases k2
  refine ⟨h1, h2, h3, .inr ⟨g, 0, e2, Nat.lt_of_lt_of_le hl hg.size, fun i hi => ?_⟩⟩
  rw [World.cell?_of_block (w := w) (a := ⟨g, 0 + i, none⟩) (hg.block g hl (fun e => hne e.symm))]
  exact hc i hi
theorem MT.lies.grown {w w' : World} {B : Nat} {v : Value} {l : List MT} (hO : OwnM w B v l) (hg : w.grownBy w' v.ownBlock) {m : MT} (h : m.lies w) : m.lies w' := ⟨Bs0.grown hO hg h.t, Bs0.grown hO hg h.x, h.fit⟩
theorem Tryz.infoM77 : (Tryz.prog.info? 77).map (fun i => (i.zero, i.size, i.bytes)) = some (some (.agg #[.int .i64 0, .int .i64 0, .int .i64 0, .slice none 0 0, .int .i64 0, .int .i64 0, .slice none 0 0]), 7, 88) := by kernel_rfl
/-- append of a token to a row of the call's own. -/
theorem list_appM {ops : Array Oper} {rest : List Oper} {o : Oper} {a : Act} {Q : Exit → Act → World → Prop} {w : World} (hgd : o.guard = none) (s x : Operand)
    (ho : o.op = .call { callee := .builtin .append, args := #[s, x], argTypes := #[73, 73] })
    (B : Nat) (v : Value) (us : List MT) (hs : a.eval s = v) (HO : Hid (OwnM w B v us))
    (ad : Addr) (c : Nat) (y : MT) (hx : a.eval x = .slice (some ad) 1 c) (HN : Hid (∀ j u, (eM y)[j]? = some u → w.cell? (ad.add j) = some u))
    (hle : us.length + 1 ≤ 1000000) (hB : B ≤ w.heap.size)
    (h : ∀ g cap w', Hid (OwnM w' B (.slice (some ⟨g, 0, none⟩) (us.length + 1) cap) (us ++ [y])) → Hid (w.grownBy w' v.ownBlock) → Hid (Below B w w') → wpList Tryz.prog ops Q rest (a.put o.dst (.slice (some ⟨g, 0, none⟩) (us.length + 1) cap)) w') :
    wpList Tryz.prog ops Q (o :: rest) a w := by
  obtain ⟨i0, hi0, hzz⟩ := Option.map_eq_some_iff.1 Tryz.infoM77
  simp only [Prod.mk.injEq] at hzz
  obtain ⟨hi2, hi1, hi3⟩ := hzz
  have hfl : flatM [y] = eM y := by simp [flatM]
  refine wpList_append_lies _ hgd s x 73 ho B 77 i0 _ 7 88 Tryz.underlying73 hi0 hi2 hi1 hi3 rfl (by omega) v us.length (flatM us) hs HO.out.own ad 1 c (flatM [y]) hx (by rw [flatM_len]; rfl) (by rw [hfl]; exact HN.out) (flatM_one [y]) (by omega) (by unfold maxLen; omega) (by omega) hB _ rfl ?_
  intro g cap w' hown hgr hat hlt
  have hown' : w'.ownsRow B 77 7 (.slice (some ⟨g, 0, none⟩) (us.length + 1) cap) (us ++ [y]).length (flatM (us ++ [y])) := by
    rw [flatM_append, List.length_append]
    exact hown
  refine h g cap w' ⟨hown', fun g' hg' => ?_, fun h => (by simp at h)⟩ hgr ?_
  · have : g = g' := by simpa [Value.ownBlock] using hg'
    subst this
    rcases hown.2 with ⟨hv, _⟩ | ⟨g0, c0, cur, hv, hb, _⟩
    · cases hv
    · cases hv; exact ⟨hb, hlt⟩
  · rcases HO.out.own.2 with ⟨hv, _⟩ | ⟨g0, c0, cur, hv, hb, _⟩
    · subst hv
      exact ⟨hgr.os, hgr.tape, hgr.output, hgr.size, fun b hb => hgr.block b (by omega) (by simp [Value.ownBlock])⟩
    · subst hv
      exact ⟨hgr.os, hgr.tape, hgr.output, hgr.size, fun b hb' => hgr.block b (by omega) (by intro e; have : b = g0 := (by simpa [Value.ownBlock] using e); omega)⟩
end Go.Proofs.YtoclingolfdfeaaGreatDoor

/- LxL -/
namespace Go.Proofs.YtoclingolfdfeaaGreatDoor
open Go.RowKit Go.Deep
set_option maxRecDepth 100000

/-- The model's tokens are these, each at its place. -/
def AreM : List MT → List (Nat × PT) → Prop
  | [], [] => True
  | m :: l, x :: r => m.is x.1 x.2 ∧ AreM l r
  | _, _ => False
theorem AreM.app : ∀ {l : List MT} {r : List (Nat × PT)} {m : MT} {x : Nat × PT}, AreM l r → m.is x.1 x.2 → AreM (l ++ [m]) (r ++ [x])
  | [], [], _, _, _, h => ⟨h, trivial⟩
  | [], _ :: _, _, _, h, _ => h.elim
  | _ :: _, [], _, _, h, _ => h.elim
  | _ :: _, _ :: _, _, _, h, h2 => ⟨h.1, AreM.app h.2 h2⟩
theorem AreM.len : ∀ {l : List MT} {r : List (Nat × PT)}, AreM l r → l.length = r.length
  | [], [], _ => rfl
  | [], _ :: _, h => h.elim
  | _ :: _, [], h => h.elim
  | _ :: _, _ :: _, h => by rw [List.length_cons, List.length_cons, AreM.len h.2]
theorem AreM.get : ∀ {l : List MT} {r : List (Nat × PT)}, AreM l r → ∀ {i : Nat} {m : MT} {x : Nat × PT}, l[i]? = some m → r[i]? = some x → m.is x.1 x.2
  | [], _, _, _, _, _, h, _ => by cases h
  | _ :: _, [], h, _, _, _, _, _ => h.elim
  | _ :: _, _ :: _, h, 0, _, _, h1, h2 => by
    cases h1
    cases h2
    exact h.1
  | _ :: _, _ :: _, h, i + 1, _, _, h1, h2 => AreM.get h.2 (by simpa using h1) (by simpa using h2)
/-- What l2lex answers. -/
def LexAns (bs : List Int) (w : World) (e : Ending) (w' : World) : Prop :=
  ((∃ p : Nat, lexR bs 0 = .error p ∧ e = .returned (.tuple #[.slice none 0 0, .int .i64 p])) ∨ ∃ (v : Value) (L : List MT) (toks : List (Nat × PT)), lexR bs 0 = .ok toks ∧ e = .returned (.tuple #[v, .int .i64 (-1)]) ∧ AreM L toks ∧ OwnM w' w.heap.size v L ∧ ∀ m ∈ L, m.lies w') ∧ Below w.heap.size w w'
/-- Where l2lex stands at place i. -/
structure LexSt (bs : List Int) (w : World) (i : Nat) (v : Value) (L : List MT) (wr : World) : Prop where
  toks : ∃ pre, AreM L pre ∧ withPre pre (lexR (bs.drop i) i) = lexR bs 0
  own : OwnM wr w.heap.size v L
  lies : ∀ m ∈ L, m.lies wr
  bel : Below w.heap.size w wr
  len : L.length ≤ i
theorem LexSt.below {bs : List Int} {w : World} {i : Nat} {v : Value} {L : List MT} {wr wr' : World} (h : LexSt bs w i v L wr) (hb : Below wr.heap.size wr wr') : LexSt bs w i v L wr' :=
  ⟨h.toks, h.own.below hb, fun m hm => (h.lies m hm).below hb, bl_trans h.bel hb, h.len⟩
theorem OwnM.isSlice {w : World} {B : Nat} {v : Value} {l : List MT} (h : OwnM w B v l) : ∃ a c, v = .slice a l.length c := by
  rcases h.form with ⟨e, h0⟩ | ⟨g, cap, e, _⟩
  · subst h0
    exact ⟨_, _, e⟩
  · exact ⟨_, _, e⟩
set_option maxHeartbeats 8000000 in
theorem l2lex_any (a : Option Addr) (len cap : Nat) (bs : List Int) (w : World) (hB : Bs w a len bs) (hl3 : len ≤ 100000) (hcap : len ≤ cap) :
    Calls Tryz.prog 51 #[.slice a len cap] w (LexAns bs w) := by
  have HB : Hid (Bs w a len bs) := hB
  have HN : Hid (bs.length = len) := hB.1
  have HS0 : Hid (LexSt bs w 0 (.slice none 0 0) [] w) := ⟨⟨[], trivial, withPre_nil _⟩, OwnM.empty _ _, fun m hm => (by cases hm), Below.refl _ _, Nat.le_refl _⟩
  clear hB
  go_enter Tryz.func51, Tryz.ntmps51
  go_wp2_with fail
  go_loopw [4, 5] (fun ov iv wr => ∃ (i : Nat) (L : List MT), iv = .int .i64 i ∧ i ≤ len ∧ Hid (LexSt bs w i ov L wr)) (fun _ iv _ => len - (intOf iv).toNat)
  case atStart => exact ⟨0, [], rfl, Nat.zero_le _, HS0⟩
  case round =>
    obtain ⟨i, L, rfl, hi, HS⟩ := hrel
    clear HS0
    obtain ⟨va, vc, hv⟩ := HS.out.own.isSlice
    subst hv
    by_cases hlt : i < len
    · have hltz : (i : Int) < (len : Int) := by omega
      obtain ⟨b0, off0, x, rfl, hx, hd, x0, x1⟩ := HB.out.byte hlt
      have hxw : wr.cell? ⟨b0, off0 + i, none⟩ = some (.int .u8 x) := (HS.out.bel.cell (p := ⟨b0, off0 + i, none⟩) (cell_ltC hx)).trans hx
      have HD : Hid (bs.drop i = x :: bs.drop (i + 1)) := hd
      clear hx hd
      by_cases hgap : x = 32 ∨ x = 10
      · have HS2 : Hid (LexSt bs w (i + 1) (.slice va L.length vc) L wr) := by
          obtain ⟨⟨pre, h1, h2⟩, h3, h4, h5, h6⟩ := HS.out
          refine ⟨⟨pre, h1, ?_⟩, h3, h4, h5, by omega⟩
          rw [HD.out, lexR_gap _ (by rcases hgap with h | h <;> simp [gapB, h])] at h2
          exact h2
        clear HS HD
        rcases hgap with h | h
        · have hq : (x == 32) = true := by simp [h]
          clear h
          go_wp2_with fail
          go_roundw
          case rel => exact ⟨i + 1, L, by go_num, by omega, HS2⟩
          case measure => simp [intOf]; omega
        · have hq : (x == 32) = false := by rw [h]; decide
          have hq2 : (x == 10) = true := by simp [h]
          clear h
          go_wp2_with fail
          go_roundw
          case rel => exact ⟨i + 1, L, by go_num, by omega, HS2⟩
          case measure => simp [intOf]; omega
      · have hq : (x == 32) = false := by simp; omega
        have hq2 : (x == 10) = false := by simp; omega
        have HGP : Hid (gapB x = false) := by
          show gapB x = false
          unfold gapB
          rw [hq, hq2]
          rfl
        have CT : Hid (Calls Tryz.prog 81 #[.slice (some ⟨b0, off0, none⟩) len cap, .int .i64 i] wr (TokA (tokOf (bs.drop i)) i wr)) := l2one_any _ len cap bs i wr (HB.out.below HS.out.bel) hl3 hcap hlt
        clear hgap
        go_wp2_with fail
        refine CT.out.mono ?_
        rintro e w1 ⟨⟨m, en, rfl, hl, hor⟩, hb1⟩
        clear CT hxw hq hq2
        have HM : Hid (m.lies (w1.alloc (.cells (eM m).toArray 77))) := hl.below (bl_a _)
        have HS1 : Hid (LexSt bs w i (.slice va L.length vc) L (w1.alloc (.cells (eM m).toArray 77))) := (HS.out.below hb1).below (bl_a _)
        clear HS hl hb1
        rcases hor with ⟨t, ht, hism, rfl⟩ | ⟨ht, rfl⟩
        · have hraw := tokOf_raw ht
          rw [List.length_drop, HN.out] at hraw
          have hen : ¬ ((i + t.raw.length : Nat) : Int) < 0 := by omega
          obtain ⟨en, hen'⟩ : ∃ en, en = i + t.raw.length := ⟨_, rfl⟩
          rw [← hen'] at hen ⊢
          have HT : Hid (∃ pre, AreM (L ++ [m]) pre ∧ withPre pre (lexR (bs.drop en) en) = lexR bs 0) := by
            obtain ⟨pre, h1, h2⟩ := HS1.out.toks
            refine ⟨pre ++ [(i, t)], h1.app hism, ?_⟩
            rw [HD.out] at ht
            rw [HD.out, lexR_tok _ HGP.out ht, withPre_map] at h2
            rw [← HD.out, List.drop_drop] at h2
            rw [hen']
            exact h2
          have hle : L.length + 1 ≤ 1000000 := by have := HS1.out.len; omega
          have henl : en ≤ len := by omega
          have hil : i < en := by omega
          have HLE : Hid (L.length ≤ i) := HS1.out.len
          clear ht hism hraw hen'
          obtain ⟨w2, hw2⟩ : ∃ w2, w2 = w1.alloc (.cells (eM m).toArray 77) := ⟨_, rfl⟩
          rw [← hw2] at HM HS1
          have HX : Hid (Bx w2 w1.heap.size (eM m)) := by
            rw [hw2]
            exact Bx.new w1 _ _ 77 rfl
          have HO3 : Hid (OwnM (w2.alloc (.cells (eM m).toArray 77)) w.heap.size (.slice va L.length vc) L) := HS1.out.own.below (bl_a _)
          have HN3 : Hid (∀ j u, (eM m)[j]? = some u → (w2.alloc (.cells (eM m).toArray 77)).cell? ((⟨w2.heap.size, 0, none⟩ : Addr).add j) = some u) := by
            intro j u hj
            rw [Addr.add_lit, Nat.zero_add]
            exact (Bx.new w2 _ (eM m) 77 rfl).c j u hj
          have HB3 : Hid (Below w.heap.size w (w2.alloc (.cells (eM m).toArray 77))) := bl_trans HS1.out.bel (bl_a _)
          have hB3 : w.heap.size ≤ (w2.alloc (.cells (eM m).toArray 77)).heap.size := HB3.out.size
          have HL3 : Hid (∀ y ∈ L ++ [m], y.lies (w2.alloc (.cells (eM m).toArray 77))) := fun y hy => by
            rcases List.mem_append.1 hy with hy | hy
            · exact (HS1.out.lies y hy).below (bl_a _)
            · rw [List.mem_singleton.1 hy]
              exact HM.out.below (bl_a _)
          obtain ⟨z0, z1, z2, z3, z4, z5, z6⟩ := bx7 HX.out
          simp only [eM] at hw2 HO3 HN3 HB3 hB3 HL3 ⊢
          go_upto_region 9 with fail
          rw [← hw2]
          clear hw2 HX
          go_wp2_with (refine list_appM rfl (.tmp 35) (.tmp 37) rfl w.heap.size (.slice va L.length vc) L rfl HO3 ⟨w2.heap.size, 0, none⟩ 1 m rfl HN3 hle hB3 ?_; intro g4 c4 w4 HO4 HG4 HD4)
          go_roundw
          case rel =>
            refine ⟨en, L ++ [m], rfl, henl, ?_⟩
            have hl4 : (L ++ [m]).length = L.length + 1 := by simp
            exact ⟨HT.out, HO4.out, fun y hy => (HL3.out y hy).grown HO3.out HG4.out, HB3.out.trans HD4.out, by rw [hl4]; have := HLE.out; omega⟩
          case measure => simp [intOf]; omega
        · have hneg : ((-1 : Int) < 0) := by omega
          have HER : Hid (lexR bs 0 = .error i) := by
            obtain ⟨pre, h1, h2⟩ := HS1.out.toks
            rw [HD.out] at ht
            rw [HD.out, lexR_bad _ HGP.out ht] at h2
            exact h2.symm
          have HBF : Hid (Below w.heap.size w (w1.alloc (.cells (eM m).toArray 77))) := HS1.out.bel
          clear HS1 HM HD HGP ht
          simp only [eM] at HBF ⊢
          go_wp2_with fail
          exact bodyPost_ret (v := .tuple #[.slice none 0 0, .int .i64 i]) (by simp [results, Tryz.results51, go_sem]) rfl ⟨.inl ⟨i, HER.out, rfl⟩, HBF.out⟩
    · have hltz : ¬ (i : Int) < (len : Int) := by omega
      have HOK : Hid (∃ toks, lexR bs 0 = .ok toks ∧ AreM L toks) := by
        obtain ⟨pre, h1, h2⟩ := HS.out.toks
        rw [List.drop_eq_nil_of_le (by have := HN.out; omega), lexR_nil] at h2
        have e : withPre pre (Except.ok [] : Except Nat (List (Nat × PT))) = .ok pre := by simp [withPre, Except.map]
        rw [e] at h2
        exact ⟨pre, h2.symm, h1⟩
      go_wp2_with fail
      obtain ⟨toks, h1, h2⟩ := HOK.out
      exact bodyPost_ret (v := .tuple #[.slice va L.length vc, .int .i64 (-1)]) (by simp [results, Tryz.results51, go_sem]) rfl ⟨.inr ⟨_, L, toks, h1, rfl, h2, HS.out.own, HS.out.lies⟩, HS.out.bel⟩
end Go.Proofs.YtoclingolfdfeaaGreatDoor

/- ReI -/
namespace Go.Proofs.YtoclingolfdfeaaGreatDoor
open Go.RowKit Go.Deep
set_option maxRecDepth 100000

/-- A term's token is what is shown of it. -/
theorem tokOf_sh {l : List Int} {t : PT} (h : tokOf l = some t) (hk : t.kind = 0) : t.raw = t.td.sh := by
  cases l with
  | nil => cases h
  | cons b r =>
    rw [tokOf] at h
    split at h
    · obtain ⟨⟨n, s⟩, hq, rfl⟩ := Option.map_eq_some_iff.1 h
      exact (numOf_some.1 hq).2.symm
    split at h
    · simp only [Option.some.injEq] at h
      subst h
      simp [TD.sh, showL]
    split at h
    · obtain ⟨⟨tx, m⟩, hq, h2⟩ := Option.bind_eq_some_iff.1 h
      split at h2
      · simp only [Option.some.injEq] at h2
        subst h2
        have := (quoteF_some r).1 tx m hq
        simp [TD.sh, showL, this]
      · cases h2
    split at h
    · obtain ⟨n, hq, rfl⟩ := Option.map_eq_some_iff.1 h
      obtain ⟨m, hm, hn⟩ := Option.bind_eq_some_iff.1 hq
      have hn : (m : Int) = n := by simpa using hn
      subst hn
      have := (blankOf_some.1 hm).2
      simp [TD.sh, showL, this]
    split at h
    · simp only [Option.some.injEq] at h
      subst h
      cases hk
    split at h
    · simp only [Option.some.injEq] at h
      subst h
      cases hk
    split at h
    · simp only [Option.some.injEq] at h
      subst h
      cases hk
    · cases h
def rawSum (l : Toks) : Nat := (l.map fun x => x.2.raw.length).sum
theorem lexF_sum : ∀ (f : Nat) (l : List Int) (p : Nat) (ts : Toks), lexF f l p = .ok ts → rawSum ts ≤ l.length ∧ ∀ x ∈ ts, (x.2.kind = 0 → x.2.raw = x.2.td.sh) ∧ 1 ≤ x.2.raw.length
  | 0, l, p, ts, h => by
    cases h
    exact ⟨by simp [rawSum], fun x hx => absurd hx List.not_mem_nil⟩
  | f + 1, [], p, ts, h => by
    cases h
    exact ⟨by simp [rawSum], fun x hx => absurd hx List.not_mem_nil⟩
  | f + 1, b :: r, p, ts, h => by
    rw [lexF] at h
    split at h
    · have := lexF_sum f r (p + 1) ts h
      exact ⟨by simp; omega, this.2⟩
    · cases ht : tokOf (b :: r) with
      | none => rw [ht] at h; cases h
      | some t =>
        rw [ht] at h
        simp only at h
        have hr := tokOf_raw ht
        cases hx : lexF f ((b :: r).drop t.raw.length) (p + t.raw.length) with
        | error e => rw [hx] at h; cases h
        | ok us =>
          rw [hx] at h
          cases h
          obtain ⟨h1, h2⟩ := lexF_sum f _ _ us hx
          rw [List.length_drop] at h1
          refine ⟨?_, fun x hx => ?_⟩
          · unfold rawSum at h1 ⊢
            simp only [List.map_cons, List.sum_cons]
            omega
          · rcases List.mem_cons.1 hx with rfl | hx
            · exact ⟨tokOf_sh ht, hr.1⟩
            · exact h2 x hx
def triLen (x : T3) : Nat := x.1.sh.length + x.2.1.sh.length + x.2.2.sh.length + 1
theorem readF_sum : ∀ (f : Nat) (l : Toks) (e : Nat) (ts : List T3), (∀ x ∈ l, (x.2.kind = 0 → x.2.raw = x.2.td.sh) ∧ 1 ≤ x.2.raw.length) → readF f l e = .ok ts → (ts.map triLen).sum ≤ rawSum l ∧ ∀ x ∈ ts, x.1.ok = true ∧ x.1.k ≤ 1 ∧ x.2.1.ok = true ∧ x.2.1.k = 0 ∧ 1 ≤ x.2.2.sh.length
  | 0, l, e, ts, _, h => by
    cases h
    exact ⟨by simp, fun x hx => absurd hx List.not_mem_nil⟩
  | f + 1, [], e, ts, _, h => by
    cases h
    exact ⟨by simp, fun x hx => absurd hx List.not_mem_nil⟩
  | f + 1, b :: r, e, ts, hm, h => by
    rw [readF] at h
    cases ht : triP (b :: r) e with
    | error q => rw [ht] at h; cases h
    | ok q =>
      obtain ⟨x, s⟩ := q
      rw [ht] at h
      simp only at h
      cases hx : readF f s e with
      | error q => rw [hx] at h; cases h
      | ok us =>
        rw [hx] at h
        cases h
        obtain ⟨p1, p2, p3, p4, s1, s2, s3, s4, e1, e2, k1, k2, k3, k4⟩ := triP_form ht
        rw [e1] at hm ⊢
        obtain ⟨h1, h2⟩ := readF_sum f s e us (fun y hy => hm y (by simp [hy])) hx
        have m1 := (hm (p1, s1) (by simp)).1
        have m2 := (hm (p2, s2) (by simp)).1
        have m3 := (hm (p3, s3) (by simp)).1
        have m4 := (hm (p4, s4) (by simp)).2
        have m5 := (hm (p3, s3) (by simp)).2
        simp only [okSubj, okProp, okTerm, Bool.and_eq_true, beq_iff_eq, decide_eq_true_eq] at k1 k2 k3
        have r1 := congrArg List.length (m1 k1.1)
        have r2 := congrArg List.length (m2 k2.1)
        have r3 := congrArg List.length (m3 k3)
        refine ⟨?_, fun y hy => ?_⟩
        · unfold rawSum at h1 ⊢
          simp only [List.map_cons, List.sum_cons]
          have : triLen x ≤ s1.raw.length + s2.raw.length + s3.raw.length + s4.raw.length := by
            rw [e2]
            simp only [triLen]
            simp only at r1 r2 r3 m4
            omega
          omega
        · rcases List.mem_cons.1 hy with rfl | hy
          · rw [e2]
            exact ⟨k1.2.1, k1.2.2, k2.2.1, k2.2.2, show 1 ≤ s3.td.sh.length by simp only at r3 m5; omega⟩
          · exact h2 y hy
theorem name_len {t : TD} (h : t.ok = true) (hk : t.k ≤ 1) : 3 ≤ t.sh.length := by
  obtain ⟨k, bs, n, s⟩ := t
  have h : termOk k bs n s = true := h
  unfold termOk at h
  split at h
  · rename_i hk
    simp only [nameOk, Bool.and_eq_true, decide_eq_true_eq] at h
    have := h.1.1.1.1.1
    simp [TD.sh, showL, hk]
    omega
  split at h
  · rename_i h0 hk
    have := digitsL_pos n.toNat
    simp [TD.sh, showL, hk]
    omega
  · rename_i h0 h1
    have hk : k ≤ 1 := hk
    split at h
    · omega
    split at h
    · omega
    · cases h
theorem lineT_len (x : T3) : (lineT x).length = triLen x + 4 := by
  simp [lineT, triLen]
  omega
theorem linesT_len : ∀ ts : List T3, (linesT ts).length = (ts.map triLen).sum + 4 * ts.length
  | [] => rfl
  | x :: r => by
    simp only [linesT, List.length_append, lineT_len, linesT_len r, List.map_cons, List.sum_cons, List.length_cons]
    omega
theorem sum_sub {f : T3 → Nat} : ∀ (l ts : List T3), l.Nodup → (∀ x ∈ l, x ∈ ts) → (l.map f).sum ≤ (ts.map f).sum ∧ l.length ≤ ts.length
  | [], ts, _, _ => by simp
  | x :: l, ts, hn, hs => by
    classical
    have hx := hs x (List.mem_cons_self ..)
    have hp := List.perm_cons_erase hx
    obtain ⟨h1, h2⟩ := List.nodup_cons.1 hn
    obtain ⟨g1, g2⟩ := sum_sub (f := f) l (ts.erase x) h2 (fun y hy => by
      have hne : y ≠ x := fun e => h1 (e ▸ hy)
      exact (List.mem_erase_of_ne hne).2 (hs y (List.mem_cons_of_mem _ hy)))
    have e1 := (hp.map f).sum_nat
    have e2 := hp.length_eq
    simp only [List.map_cons, List.sum_cons, List.length_cons] at e1 e2 ⊢
    omega
theorem OnceT.nodup {ts l : List T3} (h : OnceT ts l) : l.Nodup := h.asc.imp fun {a b} hab e => by
  subst e
  have := ord_cmpD.self a
  omega
/-- What is read is written again by at most half as much again. -/
theorem reads_len {bs : List Int} {len : Nat} {ts l : List T3} (h : Reads bs len ts) (ho : OnceT ts l) : 2 * (linesT l).length ≤ 3 * bs.length := by
  obtain ⟨toks, hx, hy⟩ := h
  obtain ⟨a1, a2⟩ := lexF_sum _ _ _ _ hx
  obtain ⟨b1, b2⟩ := readF_sum _ _ _ _ a2 hy
  obtain ⟨c1, c2⟩ := sum_sub (f := triLen) l ts ho.nodup fun x hx => (ho.mem x).1 hx
  have d : ∀ (us : List T3), (∀ x ∈ us, x.1.ok = true ∧ x.1.k ≤ 1 ∧ x.2.1.ok = true ∧ x.2.1.k = 0 ∧ 1 ≤ x.2.2.sh.length) → 8 * us.length ≤ (us.map triLen).sum := by
    intro us
    induction us with
    | nil => intro _; simp
    | cons x r ih =>
      intro hu
      have hx := hu x (List.mem_cons_self ..)
      have n1 := name_len hx.1 hx.2.1
      have n2 := name_len hx.2.2.1 (by omega)
      have n3 := hx.2.2.2.2
      have := ih fun y hy => hu y (List.mem_cons_of_mem _ hy)
      simp only [List.map_cons, List.sum_cons, List.length_cons, triLen]
      omega
  have d1 := d l fun x hx => b2 x ((ho.mem x).1 hx)
  rw [linesT_len]
  omega
end Go.Proofs.YtoclingolfdfeaaGreatDoor

/- GtxA -/
namespace Go.Proofs.YtoclingolfdfeaaGreatDoor
open Go.RowKit Go.Deep
set_option maxRecDepth 100000

/-- A row of bytes of the call's own, or none as yet. -/
def Own8 (w : World) (B : Nat) (v : Value) (n : Nat) (bs : List Int) : Prop := w.ownsRow B 5 1 v n (bs.map (Value.int .u8)) ∧ ∀ g, v.ownBlock = some g → B ≤ g ∧ g < w.heap.size
theorem Own8.nil (w : World) (B : Nat) : Own8 w B (.slice none 0 0) 0 [] := ⟨World.ownsRow_nil _ _ _ _, fun g h => by cases h⟩
theorem Own8.below {w w' : World} {B n : Nat} {v : Value} {bs : List Int} (h : Own8 w B v n bs) (hb : Below w.heap.size w w') : Own8 w' B v n bs := by
  obtain ⟨⟨h1, h2⟩, hl⟩ := h
  refine ⟨⟨h1, ?_⟩, fun g hg => ⟨(hl g hg).1, Nat.lt_of_lt_of_le (hl g hg).2 hb.size⟩⟩
  rcases h2 with h2 | ⟨g', cap', cur, hv, hB, hh, r⟩
  · exact .inl h2
  · refine .inr ⟨g', cap', cur, hv, hB, ?_, r⟩
    have := (hl g' (by rw [hv]; rfl)).2
    rw [hb.block g' this]
    exact hh
theorem Own8.len {w : World} {B n : Nat} {v : Value} {bs : List Int} (h : Own8 w B v n bs) : bs.length = n := by simpa using h.1.1
/-- A row that is told. -/
theorem Own8.nw {w : World} {B n : Nat} {v : Value} {bs : List Int} (h : Own8 w B v n bs) (hb : Byt bs) (hl : n ≤ 1048576) : ∃ a cap, v = .slice a n cap ∧ Nw w B a n bs := by
  rcases h.1.2 with ⟨hv, h0⟩ | ⟨g, cap, cur, hv, hB, hh⟩
  · subst h0
    have hz := h.len
    exact ⟨none, 0, hv, .inl ⟨rfl, rfl, List.eq_nil_of_length_eq_zero hz⟩⟩
  · subst hv
    have hr : Row8 w B g n cap bs := ⟨h.1, (h.2 g rfl).2⟩
    exact ⟨_, cap, rfl, hr.nw hb hl⟩

end Go.Proofs.YtoclingolfdfeaaGreatDoor

/- GtxB -/
namespace Go.Proofs.YtoclingolfdfeaaGreatDoor
open Go.RowKit Go.Deep
set_option maxRecDepth 100000

theorem At12.grown {w w' : World} {b : Nat} {t u v : Tm} {x : Value} (h : At12 w b t u v) (hg : w.grownBy w' x.ownBlock) (hne : x.ownBlock ≠ some b) : At12 w' b t u v := by
  obtain ⟨hl, h⟩ := h
  have e : ∀ i, w'.cell? ⟨b, i, none⟩ = w.cell? ⟨b, i, none⟩ := fun i => World.cell?_of_block (hg.block b hl (fun q => hne q.symm))
  refine ⟨Nat.lt_of_lt_of_le hl hg.size, ?_⟩
  simp only [e]
  exact h
theorem Own8.off {w : World} {B n b : Nat} {v : Value} {bs : List Int} (h : Own8 w B v n bs) (hb : w.heap.size ≤ b) : v.ownBlock ≠ some b := fun e => by
  have := (h.2 b e).2
  omega
end Go.Proofs.YtoclingolfdfeaaGreatDoor

/- ShwK -/
namespace Go.Proofs.YtoclingolfdfeaaGreatDoor
open Go.RowKit Go.Deep
set_option maxRecDepth 100000

/-- A text that is marked from k on. -/
def Marked (w : World) (a : Option Addr) (len : Nat) (k : Int) : Prop := len = 0 ∨ ∃ g, a = some ⟨g, 0, none⟩ ∧ g < w.heap.size ∧ ∀ i, i < len → w.cell? ⟨g, i, none⟩ = some (.int .u8 ((k + (i : Nat)) % 256))
theorem Marked.below {w w' : World} {a : Option Addr} {len : Nat} {k : Int} (h : Marked w a len k) (hb : Below w.heap.size w w') : Marked w' a len k := by
  rcases h with h | ⟨g, ha, hl, hc⟩
  · exact .inl h
  · exact .inr ⟨g, ha, Nat.lt_of_lt_of_le hl hb.size, fun i hi => (hb.cell (p := ⟨g, i, none⟩) hl).trans (hc i hi)⟩
theorem Nw.but {w w' : World} {B g len : Nat} {a : Option Addr} {bs : List Int} (h : Nw w B a len bs) (hb : But g w w') (hg : g < B) : Nw w' B a len bs := by
  rcases h with h | ⟨g', ha, hB, ho⟩
  · exact .inl h
  · exact .inr ⟨g', ha, hB, ho.but hb (by omega)⟩

end Go.Proofs.YtoclingolfdfeaaGreatDoor

/- ReK -/
namespace Go.Proofs.YtoclingolfdfeaaGreatDoor
open Go.RowKit Go.Deep
set_option maxRecDepth 100000

theorem G1.good.okT {y : G1} (h : y.good) : okT y.td3 := by
  have h := h.2.2.2
  unfold tripleOk at h
  simp only [Bool.and_eq_true, decide_eq_true_eq, beq_iff_eq] at h
  exact ⟨h.1.1.1.1, h.1.1.1.2, h.1.1.2, h.1.2, h.2⟩
theorem okT.fine {x : T3} (h : okT x) : fine3 x := ⟨⟨h.1, byt_of_ok h.1⟩, ⟨h.2.1, byt_of_ok h.2.1⟩, h.2.2.1, byt_of_ok h.2.2.1⟩
theorem OnceT.self {l : List T3} (h : l.Pairwise (fun x y => cmpD x y < 0)) : OnceT l l := ⟨h, fun _ => Iff.rfl⟩
theorem ReadWell.asc {bs : List Int} {len : Nat} {w w' : World} {a : Option Addr} {cap : Nat} {r : List G1} (h : ReadWell bs len w w' a cap r) : (r.map G1.td3).Pairwise (fun x y => cmpD x y < 0) := by
  obtain ⟨ts, _, ho⟩ := h.ts
  exact ho.asc
theorem ReadWell.ok {bs : List Int} {len : Nat} {w w' : World} {a : Option Addr} {cap : Nat} {r : List G1} (h : ReadWell bs len w w' a cap r) : ∀ x ∈ r.map G1.td3, okT x := fun x hx => by
  obtain ⟨y, hy, rfl⟩ := List.mem_map.1 hx
  exact (h.good y hy).1.okT
theorem ReadWell.short {bs : List Int} {len : Nat} {w w' : World} {a : Option Addr} {cap : Nat} {r : List G1} (h : ReadWell bs len w w' a cap r) : 2 * (linesT (r.map G1.td3)).length ≤ 3 * bs.length := by
  obtain ⟨ts, hr, ho⟩ := h.ts
  exact reads_len hr ho
end Go.Proofs.YtoclingolfdfeaaGreatDoor
