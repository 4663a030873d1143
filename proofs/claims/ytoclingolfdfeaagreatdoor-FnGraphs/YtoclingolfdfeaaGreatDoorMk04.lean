/- Texts put together: TriC CmpC CmpD CmpE CmpF -/
import Derived.Test.YtoclingolfdfeaaGreatDoorMk03
import Derived.Test.YtoclingolfdfeaaGreatDoorMk02
import Derived.Lib.Bytealg
import Derived.Lib.Bytes
import Derived.Laws.BytesArg
import Derived.Laws.Externs
import Derived.Deep.RegionHeld3
import Derived.Test.YtoclingolfdfeaaGreatDoorMk01
/- TriC -/
namespace Go.Proofs.YtoclingolfdfeaaGreatDoor
open Go.RowKit Go.Deep

/-- A triple that may be. -/
def tripleOk (t u v : Tm) (bt bu bv : List Int) : Bool := termOk t.k bt t.n t.s && termOk u.k bu u.n u.s && termOk v.k bv v.n v.s && decide (t.k ≤ 1) && (u.k == 0)

theorem specTripleOk_any (t u v : Tm) (bt bu bv : List Int) (w : World) (ft : t.fits) (fu : u.fits) (fv : v.fits) (hT : Bs w t.a t.len bt) (hU : Bs w u.a u.len bu) (hV : Bs w v.a v.len bv) :
    Calls Tryz.prog 46 #[.agg #[.int .i64 t.k, .slice t.a t.len t.cap, .int .i64 t.n, .int .i64 t.s, .int .i64 u.k, .slice u.a u.len u.cap, .int .i64 u.n, .int .i64 u.s, .int .i64 v.k, .slice v.a v.len v.cap, .int .i64 v.n, .int .i64 v.s]] w fun e w' => e = .returned (.bool (tripleOk t u v bt bu bv)) ∧ Below w.heap.size w w' := by
  have O1 := fun w h => specTermOk_any t.k t.n t.s t.a t.len t.cap bt w h ft.1 ft.2.1
  have O2 := fun w h => specTermOk_any u.k u.n u.s u.a u.len u.cap bu w h fu.1 fu.2.1
  have O3 := fun w h => specTermOk_any v.k v.n v.s v.a v.len v.cap bv w h fv.1 fv.2.1
  clear ft fu fv
  cases e1 : termOk t.k bt t.n t.s
  · have er : tripleOk t u v bt bu bv = false := by simp [tripleOk, e1]
    rw [er]
    rw [e1] at O1
    clear er e1
    go_enter Tryz.func46, Tryz.ntmps46
    go_wp2_with fail
    refine (O1 _ (hT.below (bl_a _))).mono ?_
    rintro e w1 ⟨rfl, o1, rfl⟩
    go_wp2
    go_ret
    exact ⟨rfl, bl_alloc (bl_a _) _⟩
  cases e2 : termOk u.k bu u.n u.s
  · have er : tripleOk t u v bt bu bv = false := by simp [tripleOk, e2]
    rw [er]
    rw [e1] at O1
    rw [e2] at O2
    clear er e1 e2
    go_enter Tryz.func46, Tryz.ntmps46
    go_wp2_with fail
    refine (O1 _ (hT.below (bl_a _))).mono ?_
    rintro e w1 ⟨rfl, o1, rfl⟩
    go_wp2_with fail
    refine (O2 _ (hU.below (bl_alloc (bl_a _) _))).mono ?_
    rintro e w1 ⟨rfl, o2, rfl⟩
    go_wp2
    go_ret
    exact ⟨rfl, bl_alloc (bl_alloc (bl_a _) _) _⟩
  cases e3 : termOk v.k bv v.n v.s
  · have er : tripleOk t u v bt bu bv = false := by simp [tripleOk, e3]
    rw [er]
    rw [e1] at O1
    rw [e2] at O2
    rw [e3] at O3
    clear er e1 e2 e3
    go_enter Tryz.func46, Tryz.ntmps46
    go_wp2_with fail
    refine (O1 _ (hT.below (bl_a _))).mono ?_
    rintro e w1 ⟨rfl, o1, rfl⟩
    go_wp2_with fail
    refine (O2 _ (hU.below (bl_alloc (bl_a _) _))).mono ?_
    rintro e w1 ⟨rfl, o2, rfl⟩
    go_wp2_with fail
    refine (O3 _ (hV.below (bl_alloc (bl_alloc (bl_a _) _) _))).mono ?_
    rintro e w1 ⟨rfl, o3, rfl⟩
    go_wp2
    go_ret
    exact ⟨rfl, bl_alloc (bl_alloc (bl_alloc (bl_a _) _) _) _⟩
  rw [e1] at O1
  rw [e2] at O2
  rw [e3] at O3
  cases c1 : decide (t.k ≤ 1)
  · have er : Hid (tripleOk t u v bt bu bv = false) := by show _ = _; simp [tripleOk, c1]
    clear e1 e2 e3
    go_enter Tryz.func46, Tryz.ntmps46
    go_wp2_with fail
    refine (O1 _ (hT.below (bl_a _))).mono ?_
    rintro e w1 ⟨rfl, o1, rfl⟩
    go_wp2_with fail
    refine (O2 _ (hU.below (bl_alloc (bl_a _) _))).mono ?_
    rintro e w1 ⟨rfl, o2, rfl⟩
    go_wp2_with fail
    refine (O3 _ (hV.below (bl_alloc (bl_alloc (bl_a _) _) _))).mono ?_
    rintro e w1 ⟨rfl, o3, rfl⟩
    go_wp2
    go_ret
    exact ⟨by rw [er.out]; rfl, bl_alloc (bl_alloc (bl_alloc (bl_a _) _) _) _⟩
  · have er : Hid (tripleOk t u v bt bu bv = (u.k == 0)) := by show _ = _; simp [tripleOk, e1, e2, e3, c1]
    clear e1 e2 e3
    go_enter Tryz.func46, Tryz.ntmps46
    go_wp2_with fail
    refine (O1 _ (hT.below (bl_a _))).mono ?_
    rintro e w1 ⟨rfl, o1, rfl⟩
    go_wp2_with fail
    refine (O2 _ (hU.below (bl_alloc (bl_a _) _))).mono ?_
    rintro e w1 ⟨rfl, o2, rfl⟩
    go_wp2_with fail
    refine (O3 _ (hV.below (bl_alloc (bl_alloc (bl_a _) _) _))).mono ?_
    rintro e w1 ⟨rfl, o3, rfl⟩
    go_wp2
    go_ret
    exact ⟨by rw [er.out]; rfl, bl_alloc (bl_alloc (bl_alloc (bl_a _) _) _) _⟩

theorem isSubject_any (t : Tm) (bt : List Int) (w : World) (ft : t.fits) (hT : Bs w t.a t.len bt) :
    Calls Tryz.prog 77 #[.agg #[.int .i64 t.k, .slice t.a t.len t.cap, .int .i64 t.n, .int .i64 t.s]] w fun e w' => e = .returned (.bool (termOk t.k bt t.n t.s && decide (t.k ≤ 1))) ∧ Below w.heap.size w w' := by
  have O1 := fun w h => implTermOk_any t.k t.n t.s t.a t.len t.cap bt w h ft.1 ft.2.1 ft.2.2.1 ft.2.2.2
  clear ft
  cases e1 : termOk t.k bt t.n t.s
  · rw [e1] at O1
    clear e1
    go_enter Tryz.func77, Tryz.ntmps77
    go_wp2_with fail
    refine (O1 _ (hT.below (bl_a _))).mono ?_
    rintro e w1 ⟨rfl, hb1⟩
    go_wp2
    go_ret
    exact ⟨rfl, bl_trans (bl_a _) hb1⟩
  have hk : 0 ≤ t.k := by
    unfold termOk at e1
    split at e1
    · omega
    · split at e1
      · omega
      · split at e1
        · omega
        · split at e1
          · omega
          · cases e1
  rw [e1] at O1
  clear e1
  simp only [Bool.true_and]
  cases c0 : (t.k == 0)
  · have er : Hid (decide (t.k ≤ 1) = (t.k == 1)) := by
      show _ = _
      have : t.k ≠ 0 := by simpa using c0
      by_cases c1 : t.k = 1
      · simp [c1]
      · have : ¬ t.k ≤ 1 := by omega
        simp [c1, this]
    go_enter Tryz.func77, Tryz.ntmps77
    go_wp2_with fail
    refine (O1 _ (hT.below (bl_a _))).mono ?_
    rintro e w1 ⟨rfl, hb1⟩
    have hA := (At4.new w _ _ _ _ _).below hb1
    obtain ⟨x0, x1, x2, x3, x4⟩ := id hA
    go_wp2
    go_ret
    exact ⟨by rw [er.out]; rfl, bl_trans (bl_a _) hb1⟩
  · have er : Hid (decide (t.k ≤ 1) = true) := by
      show _ = _
      have : t.k = 0 := by simpa using c0
      simp [this]
    go_enter Tryz.func77, Tryz.ntmps77
    go_wp2_with fail
    refine (O1 _ (hT.below (bl_a _))).mono ?_
    rintro e w1 ⟨rfl, hb1⟩
    have hA := (At4.new w _ _ _ _ _).below hb1
    obtain ⟨x0, x1, x2, x3, x4⟩ := id hA
    go_wp2
    go_ret
    exact ⟨by rw [er.out]; rfl, bl_trans (bl_a _) hb1⟩

theorem isProperty_any (t : Tm) (bt : List Int) (w : World) (ft : t.fits) (hT : Bs w t.a t.len bt) :
    Calls Tryz.prog 78 #[.agg #[.int .i64 t.k, .slice t.a t.len t.cap, .int .i64 t.n, .int .i64 t.s]] w fun e w' => e = .returned (.bool (termOk t.k bt t.n t.s && (t.k == 0))) ∧ Below w.heap.size w w' := by
  have O1 := fun w h => implTermOk_any t.k t.n t.s t.a t.len t.cap bt w h ft.1 ft.2.1 ft.2.2.1 ft.2.2.2
  clear ft
  cases e1 : termOk t.k bt t.n t.s
  · rw [e1] at O1
    clear e1
    go_enter Tryz.func78, Tryz.ntmps78
    go_wp2_with fail
    refine (O1 _ (hT.below (bl_a _))).mono ?_
    rintro e w1 ⟨rfl, hb1⟩
    go_wp2
    go_ret
    exact ⟨rfl, bl_trans (bl_a _) hb1⟩
  rw [e1] at O1
  clear e1
  simp only [Bool.true_and]
  go_enter Tryz.func78, Tryz.ntmps78
  go_wp2_with fail
  refine (O1 _ (hT.below (bl_a _))).mono ?_
  rintro e w1 ⟨rfl, hb1⟩
  have hA := (At4.new w _ _ _ _ _).below hb1
  obtain ⟨x0, x1, x2, x3, x4⟩ := id hA
  go_wp2
  go_ret
  exact ⟨rfl, bl_trans (bl_a _) hb1⟩

theorem implTripleOk_any (t u v : Tm) (bt bu bv : List Int) (w : World) (ft : t.fits) (fu : u.fits) (fv : v.fits) (hT : Bs w t.a t.len bt) (hU : Bs w u.a u.len bu) (hV : Bs w v.a v.len bv) :
    Calls Tryz.prog 48 #[.agg #[.int .i64 t.k, .slice t.a t.len t.cap, .int .i64 t.n, .int .i64 t.s, .int .i64 u.k, .slice u.a u.len u.cap, .int .i64 u.n, .int .i64 u.s, .int .i64 v.k, .slice v.a v.len v.cap, .int .i64 v.n, .int .i64 v.s]] w fun e w' => e = .returned (.bool (tripleOk t u v bt bu bv)) ∧ Below w.heap.size w w' := by
  have O1 := fun w h => isSubject_any t bt w ft h
  have O2 := fun w h => isProperty_any u bu w fu h
  have O3 := fun w h => implTermOk_any v.k v.n v.s v.a v.len v.cap bv w h fv.1 fv.2.1 fv.2.2.1 fv.2.2.2
  clear ft fu fv
  have er : tripleOk t u v bt bu bv = ((termOk t.k bt t.n t.s && decide (t.k ≤ 1)) && (termOk u.k bu u.n u.s && (u.k == 0)) && termOk v.k bv v.n v.s) := by
    unfold tripleOk
    cases termOk t.k bt t.n t.s <;> cases termOk u.k bu u.n u.s <;> cases termOk v.k bv v.n v.s <;> simp
  rw [er]
  clear er
  generalize (termOk t.k bt t.n t.s && decide (t.k ≤ 1)) = p1 at *
  generalize (termOk u.k bu u.n u.s && (u.k == 0)) = p2 at *
  generalize termOk v.k bv v.n v.s = p3 at *
  cases p1
  · simp only [Bool.false_and]
    go_enter Tryz.func48, Tryz.ntmps48
    go_wp2_with fail
    refine (O1 _ (hT.below (bl_a _))).mono ?_
    rintro e w1 ⟨rfl, hb1⟩
    go_wp2
    go_ret
    exact ⟨rfl, bl_trans (bl_a _) hb1⟩
  cases p2
  · simp only [Bool.false_and, Bool.true_and]
    go_enter Tryz.func48, Tryz.ntmps48
    go_wp2_with fail
    refine (O1 _ (hT.below (bl_a _))).mono ?_
    rintro e w1 ⟨rfl, hb1⟩
    have hA := (Own12.at w w.heap.size t u v 36 rfl).1.below hb1
    have hw1 := bl_trans (bl_a _) hb1
    clear hb1
    obtain ⟨_, ⟨x0, x1, x2, x3⟩, ⟨x4, x5, x6, x7⟩, ⟨x8, x9, xa, xb⟩⟩ := id hA
    go_wp2_with fail
    refine (O2 _ (hU.below hw1)).mono ?_
    rintro e w2 ⟨rfl, hb2⟩
    go_wp2
    go_ret
    exact ⟨rfl, bl_trans hw1 hb2⟩
  simp only [Bool.true_and]
  go_enter Tryz.func48, Tryz.ntmps48
  go_wp2_with fail
  refine (O1 _ (hT.below (bl_a _))).mono ?_
  rintro e w1 ⟨rfl, hb1⟩
  have hA := (Own12.at w w.heap.size t u v 36 rfl).1.below hb1
  have hw1 := bl_trans (bl_a _) hb1
  clear hb1
  obtain ⟨_, ⟨x0, x1, x2, x3⟩, ⟨x4, x5, x6, x7⟩, ⟨x8, x9, xa, xb⟩⟩ := id hA
  go_wp2_with fail
  refine (O2 _ (hU.below hw1)).mono ?_
  rintro e w2 ⟨rfl, hb2⟩
  replace hA := hA.below hb2
  replace hw1 := bl_trans hw1 hb2
  clear x0 x1 x2 x3 x4 x5 x6 x7 x8 x9 xa xb
  clear hb2
  obtain ⟨_, ⟨x0, x1, x2, x3⟩, ⟨x4, x5, x6, x7⟩, ⟨x8, x9, xa, xb⟩⟩ := id hA
  go_wp2_with fail
  refine (O3 _ (hV.below hw1)).mono ?_
  rintro e w3 ⟨rfl, hb3⟩
  go_wp2
  go_ret
  exact ⟨rfl, bl_trans hw1 hb3⟩
end Go.Proofs.YtoclingolfdfeaaGreatDoor

/- CmpC -/
namespace Go.Proofs.YtoclingolfdfeaaGreatDoor
open Go.RowKit Go.Deep

/-- Two texts by their bytes. -/
def cmpB (xs ys : List Int) : Int := Lib.compareBytes (Lib.bytesOf xs) (Lib.bytesOf ys)

theorem run_loadBytes {P : Program} (w : World) (b : Nat) : ∀ (n off : Nat) (bs : List Int) (acc : ByteArray), bs.length = n → (∀ i, i < n → w.cell? ⟨b, off + i, none⟩ = some (.int .u8 (bs[i]?.getD 0))) →
    (Extern.Bytes.loadBytes ⟨b, off, none⟩ n acc).run P w = .ok (bs.foldl (fun r n => r.push (UInt8.ofNat n.toNat)) acc) w
  | 0, off, bs, acc, hl, _ => by
    rw [List.eq_nil_of_length_eq_zero hl]
    rfl
  | n + 1, off, [], acc, hl, _ => by simp at hl
  | n + 1, off, x :: bs, acc, hl, hc => by
    have h0 : w.cell? ⟨b, off, none⟩ = some (.int .u8 x) := by simpa using hc 0 (by omega)
    have ih := run_loadBytes (P := P) w b n (off + 1) bs (acc.push (UInt8.ofNat x.toNat)) (by simpa using hl) (fun i hi => by
      have := hc (i + 1) (by omega)
      simp at this
      rw [show off + 1 + i = off + (i + 1) by omega]
      exact this)
    have ea : (⟨b, off, none⟩ : Addr).add 1 = ⟨b, off + 1, none⟩ := by simp [Addr.add]
    have hld : (load ⟨b, off, none⟩).run P w = .ok (.int .u8 x) w := by simp [go_sem, h0]
    unfold Extern.Bytes.loadBytes
    simp only [Sem.run_bind, hld, Result.andThen]
    rw [ea]
    exact ih

theorem Bs.bytes {P : Program} {w : World} {a : Option Addr} {len cap : Nat} {bs : List Int} (h : Bs w a len bs) : (Extern.Bytes.bytesOf (.slice a len cap)).run P w = .ok (strOfNums bs) w := by
  obtain ⟨hl, _, _, h4⟩ := h
  rcases h4 with h4 | ⟨b, off, rfl, _, hc⟩
  · subst h4
    have e : bs = [] := List.eq_nil_of_length_eq_zero hl
    subst e
    cases a with
    | none => rfl
    | some x => rfl
  · have := run_loadBytes (P := P) w b len off bs .empty hl hc
    show (Extern.Bytes.loadBytes ⟨b, off, none⟩ len .empty).run P w = _
    rw [this, foldl_push_bytes]
    simp [strOfNums, ByteArray.empty, ByteArray.emptyWithCapacity]
    rfl

theorem bytealg_any (a a' : Option Addr) (len cap len' cap' : Nat) (bs bs' : List Int) (w : World) (hB : Bs w a len bs) (hB' : Bs w a' len' bs') :
    (callFunc 170 #[.slice a len cap, .slice a' len' cap']).run Tryz.prog w = .ok (.value (.int .i64 (cmpB bs bs'))) w := by
  rw [run_callFunc_extern Tryz.func170 (by kernel_rfl) (by kernel_rfl) (by kernel_rfl) (e := Extern.BytealgCompare.compare) (by kernel_rfl)]
  have : (Extern.BytealgCompare.compare #[.slice a len cap, .slice a' len' cap']).run Tryz.prog w = .ok (.int .i64 (cmpB bs bs')) w := by
    change Sem.run Tryz.prog (do pure (goInt (Extern.BytealgCompare.cmp (← Extern.Bytes.bytesOf (.slice a len cap)) (← Extern.Bytes.bytesOf (.slice a' len' cap'))))) w = _
    simp only [Sem.run_bind, hB.bytes, hB'.bytes, Sem.run_pure, Result.andThen]
    rw [Lib.cmp_eq]
    rfl
  rw [this]
  rfl

theorem bytesCompare_any (a a' : Option Addr) (len cap len' cap' : Nat) (bs bs' : List Int) (w : World) (hB : Bs w a len bs) (hB' : Bs w a' len' bs') :
    Calls Tryz.prog 154 #[.slice a len cap, .slice a' len' cap'] w fun e w' => e = .returned (.int .i64 (cmpB bs bs')) ∧ w' = w := by
  have hx := bytealg_any a a' len cap len' cap' bs bs' w hB hB'
  clear hB hB'
  go_enter Tryz.func154, Tryz.ntmps154
  go_wp2
  go_ret
  exact ⟨rfl, rfl⟩

theorem compareText_any (k n s k' n' s' : Int) (a a' : Option Addr) (len cap len' cap' : Nat) (bs bs' : List Int) (w : World) (hB : Bs w a len bs) (hB' : Bs w a' len' bs') :
    Calls Tryz.prog 115 #[.agg #[.int .i64 k, .slice a len cap, .int .i64 n, .int .i64 s], .agg #[.int .i64 k', .slice a' len' cap', .int .i64 n', .int .i64 s']] w fun e w' =>
      e = .returned (.int .i64 (cmpB bs bs')) ∧ Below w.heap.size w w' := by
  have h1 : ∀ o1 o2, Bs ((w.alloc o1).alloc o2) a len bs := fun o1 o2 => hB.below (bl_alloc (bl_a _) _)
  have h2 : ∀ o1 o2, Bs ((w.alloc o1).alloc o2) a' len' bs' := fun o1 o2 => hB'.below (bl_alloc (bl_a _) _)
  clear hB hB'
  go_enter Tryz.func115, Tryz.ntmps115
  go_wp2_with fail
  refine (bytesCompare_any a a' len cap len' cap' bs bs' _ (h1 _ _) (h2 _ _)).mono ?_
  rintro e w1 ⟨rfl, rfl⟩
  go_wp2
  go_ret
  exact ⟨rfl, bl_alloc (bl_a _) _⟩
end Go.Proofs.YtoclingolfdfeaaGreatDoor

/- CmpD -/
namespace Go.Proofs.YtoclingolfdfeaaGreatDoor
open Go.RowKit Go.Deep

theorem cell_keep {w w' : World} (hb : Below w.heap.size w w') {p : Addr} {v : Value} (h : w.cell? p = some v) (hp : p.block < w.heap.size) : w'.cell? p = some v := (hb.cell hp).trans h

theorem At4.at (w : World) (b : Nat) (v0 v1 v2 v3 : Value) (t : TypeId) (e : b = w.heap.size) : At4 (w.alloc (.cells #[v0, v1, v2, v3] t)) b v0 v1 v2 v3 := by
  subst e; exact At4.new w v0 v1 v2 v3 t

/-- Two terms that may be: by kind, by text, by number: the first that tells. -/
def cmp3 (x y z : Int) : Int := orI x (orI y z)

set_option maxHeartbeats 1000000 in
theorem firstUnlike_any (k n k' n' : Int) (s s' : Nat) (a a' : Option Addr) (len cap len' cap' : Nat) (bs bs' : List Int) (b : Nat) (w : World)
    (hB : Bs w a len bs) (hB' : Bs w a' len' bs') (hs : s ≤ 6) (h1 : -9223372036854775808 ≤ n) (h2 : n ≤ 9223372036854775807) (hs' : s' ≤ 6) (h1' : -9223372036854775808 ≤ n') (h2' : n' ≤ 9223372036854775807)
    (hb : b < w.heap.size) (f0 : w.cell? ⟨b, 0, none⟩ = some (.func (.func 114) #[] #[])) (f1 : w.cell? ⟨b, 1, none⟩ = some (.func (.func 115) #[] #[])) (f2 : w.cell? ⟨b, 2, none⟩ = some (.func (.func 116) #[] #[])) :
    Calls Tryz.prog 113 #[.agg #[.int .i64 k, .slice a len cap, .int .i64 n, .int .i64 s], .agg #[.int .i64 k', .slice a' len' cap', .int .i64 n', .int .i64 s'], .slice (some ⟨b, 0, none⟩) 3 3] w fun e w' =>
      e = .returned (.int .i64 (cmp3 (cmpI k k') (cmpB bs bs') (cmpN n s n' s'))) ∧ Below w.heap.size w w' := by
  have hB2 : ∀ o1 o2, Bs ((w.alloc o1).alloc o2) a len bs := fun o1 o2 => hB.below (bl_alloc (bl_a _) _)
  have hB2' : ∀ o1 o2, Bs ((w.alloc o1).alloc o2) a' len' bs' := fun o1 o2 => hB'.below (bl_alloc (bl_a _) _)
  clear hB hB'
  have kind := fun w => compareKind_any k n s k' n' s' a a' len cap len' cap' w
  have number := fun w => compareNumber_any k n k' n' s s' a a' len cap len' cap' w hs h1 h2 hs' h1' h2'
  have text := fun w hB hB' => compareText_any k n s k' n' s' a a' len cap len' cap' bs bs' w hB hB'
  generalize cmpI k k' = x at kind ⊢
  generalize cmpB bs bs' = y at text ⊢
  generalize cmpN n s n' s' = z at number ⊢
  go_enter Tryz.func113, Tryz.ntmps113
  go_wp2_with fail
  refine wp_loop_rounds 4 ?_
  rw [rounds_succ]
  go_wp2_with fail
  refine (kind _).mono ?_
  rintro e w1 ⟨rfl, hb1⟩
  have hw1 := bl_trans (bl_a _) (bl_trans (bl_a _) hb1)
  have hA1 := (At4.new w _ _ _ _ _).below (bl_trans (bl_a _) hb1)
  have hX1 := (At4.at (w.alloc _) (w.heap.size + 1) _ _ _ _ _ (by simp)).below hb1
  have hB1 := (hB2 _ _).below hb1
  have hB1' := (hB2' _ _).below hb1
  have g1 := cell_keep hw1 f1 hb
  have g2 := cell_keep hw1 f2 hb
  have hbl := Nat.lt_of_lt_of_le hb hw1.size
  clear hB2 hB2' hb1 f0 f1 f2 kind
  obtain ⟨a0, a1, a2, a3, a4⟩ := id hA1
  obtain ⟨x0, x1, x2, x3, x4⟩ := id hX1
  by_cases hx : x = 0
  · subst hx
    go_wp2_with fail
    rw [rounds_succ]
    go_wp2_with fail
    refine (text _ hB1 hB1').mono ?_
    rintro e w2 ⟨rfl, hb2⟩
    have hw2 := bl_trans hw1 hb2
    have hA2 := hA1.below hb2
    have hX2 := hX1.below hb2
    have g3 := cell_keep hb2 g2 hbl
    clear hB1 hB1' g1 g2 hw1 hA1 hX1 hbl hb2 text a0 a1 a2 a3 a4 x0 x1 x2 x3 x4
    obtain ⟨a0, a1, a2, a3, a4⟩ := id hA2
    obtain ⟨x0, x1, x2, x3, x4⟩ := id hX2
    by_cases hy : y = 0
    · subst hy
      go_wp2_with fail
      rw [rounds_succ]
      go_wp2_with fail
      refine (number _).mono ?_
      rintro e w3 ⟨rfl, hb3⟩
      have hw3 := bl_trans hw2 hb3
      clear hw2 hA2 hX2 g3 number a0 a1 a2 a3 a4 x0 x1 x2 x3 x4
      by_cases hz : z = 0
      · subst hz
        go_wp2_with fail
        rw [rounds_succ]
        go_wp2
        go_ret
        exact ⟨rfl, hw3⟩
      · have hz' : (z != 0) = true := by simp; omega
        clear hz
        go_wp2
        go_ret
        exact ⟨rfl, hw3⟩
    · have hy' : (y != 0) = true := by simp; omega
      have ec : Hid (cmp3 0 y z = y) := by show _ = _; simp [cmp3, orI, hy]
      clear hy
      go_wp2
      go_ret
      exact ⟨by rw [ec.out]; rfl, hw2⟩
  · have hx' : (x != 0) = true := by simp; omega
    have ec : Hid (cmp3 x y z = x) := by show _ = _; simp [cmp3, orI, hx]
    clear hx text
    go_wp2
    go_ret
    exact ⟨by rw [ec.out]; rfl, hw1⟩

theorem termOk_scale {k n s : Int} {bs : List Int} (h : termOk k bs n s = true) : 0 ≤ s ∧ s ≤ 6 := by
  unfold termOk at h
  split at h
  · simp at h; omega
  split at h
  · simp at h; omega
  split at h
  · simp at h; omega
  split at h
  · simp [numOk] at h; omega
  · simp at h

/-- Whatever two terms: what may not be first. -/
def cmpT (ok ok' : Bool) (c : Int) : Int := if ok then (if ok' then c else 1) else (if ok' then -1 else 0)

set_option maxHeartbeats 1000000 in
theorem implCompare_any (k n s k' n' s' : Int) (a a' : Option Addr) (len cap len' cap' : Nat) (bs bs' : List Int) (w : World)
    (hB : Bs w a len bs) (hB' : Bs w a' len' bs') (h1 : -9223372036854775808 ≤ n) (h2 : n ≤ 9223372036854775807) (h3 : -9223372036854775808 ≤ s) (h4 : s ≤ 9223372036854775807) (h1' : -9223372036854775808 ≤ n') (h2' : n' ≤ 9223372036854775807) (h3' : -9223372036854775808 ≤ s') (h4' : s' ≤ 9223372036854775807) :
    Calls Tryz.prog 74 #[.agg #[.int .i64 k, .slice a len cap, .int .i64 n, .int .i64 s], .agg #[.int .i64 k', .slice a' len' cap', .int .i64 n', .int .i64 s']] w fun e w' =>
      e = .returned (.int .i64 (cmpT (termOk k bs n s) (termOk k' bs' n' s') (cmp3 (cmpI k k') (cmpB bs bs') (cmpN n s.toNat n' s'.toNat)))) ∧ Below w.heap.size w w' := by
  have ok1 := fun w hB => implTermOk_any k n s a len cap bs w hB h1 h2 h3 h4
  have ok2 := fun w hB => implTermOk_any k' n' s' a' len' cap' bs' w hB h1' h2' h3' h4'
  go_enter Tryz.func74, Tryz.ntmps74
  have hB2 : ∀ o1 o2, Bs ((w.alloc o1).alloc o2).drew a len bs := fun o1 o2 => hB.below (Below.drew (bl_alloc (bl_a _) _))
  have hB2' : ∀ o1 o2, Bs ((w.alloc o1).alloc o2).drew a' len' bs' := fun o1 o2 => hB'.below (Below.drew (bl_alloc (bl_a _) _))
  have tok1 : True := trivial
  clear hB hB'
  go_wp2_with fail
  go_region_held3 (fun w' => w'.cell? ⟨w.heap.size, 0, none⟩ = some (.int .i64 k) ∧ w'.cell? ⟨w.heap.size, 1, none⟩ = some (.slice a len cap) ∧ w'.cell? ⟨w.heap.size, 2, none⟩ = some (.int .i64 n) ∧ w'.cell? ⟨w.heap.size, 3, none⟩ = some (.int .i64 s) ∧ w'.cell? ⟨w.heap.size + 1, 0, none⟩ = some (.int .i64 k') ∧ w'.cell? ⟨w.heap.size + 1, 1, none⟩ = some (.slice a' len' cap') ∧ w'.cell? ⟨w.heap.size + 1, 2, none⟩ = some (.int .i64 n') ∧ w'.cell? ⟨w.heap.size + 1, 3, none⟩ = some (.int .i64 s')) (simp [*, go_sem])
    (first
      | (go_at_call 9; have _t := tok1; refine (ok1 _ (hB2 _ _)).mono ?_; rintro e w1 ⟨rfl, hb1⟩; clear tok1; have hw1 := bl_trans (Below.drew (bl_alloc (bl_a _) _)) hb1; have hA1 := (At4.new w (.int .i64 k) (.slice a len cap) (.int .i64 n) (.int .i64 s) 24).below (bl_trans (Below.drew (bl_a _)) hb1); have hX1 := (At4.at (w.alloc (.cells #[.int .i64 k, .slice a len cap, .int .i64 n, .int .i64 s] 24)) (w.heap.size + 1) (.int .i64 k') (.slice a' len' cap') (.int .i64 n') (.int .i64 s') 24 (by simp)).below (bl_trans (Below.drew (Below.refl _ _)) hb1); have hB1 := (hB2 _ _).below hb1; have hB1' := (hB2' _ _).below hb1; clear hb1; obtain ⟨a0, a1, a2, a3, a4⟩ := id hA1; obtain ⟨x0, x1, x2, x3, x4⟩ := id hX1)
      | (go_at_call 9; refine (ok2 _ hB1').mono ?_; rintro e w2 ⟨rfl, hb2⟩; have hw2 := bl_trans hw1 hb2; have hA2 := hA1.below hb2; have hX2 := hX1.below hb2; have hB3 := hB1.below hb2; have hB3' := hB1'.below hb2; clear hb2 hw1 hA1 hX1 hB1 hB1' a0 a1 a2 a3 a4 x0 x1 x2 x3 x4; obtain ⟨a0, a1, a2, a3, a4⟩ := id hA2; obtain ⟨x0, x1, x2, x3, x4⟩ := id hX2))
  by_cases e1 : termOk k bs n s = true
  · by_cases e2 : termOk k' bs' n' s' = true
    · obtain ⟨b1, b2⟩ := termOk_scale e1
      obtain ⟨b1', b2'⟩ := termOk_scale e2
      obtain ⟨t, rfl⟩ : ∃ t : Nat, s = t := ⟨s.toNat, by omega⟩
      obtain ⟨t', rfl⟩ : ∃ t : Nat, s' = t := ⟨s'.toNat, by omega⟩
      clear ok1 ok2 hB2 hB2'
      go_wp2_with fail
      refine (firstUnlike_any k n k' n' t t' a a' len cap len' cap' bs bs' w2.heap.size _ (hB3.below (bl_a _)) (hB3'.below (bl_a _)) (by omega) h1 h2 (by omega) h1' h2' (by simp) (by simp [go_sem]) (by simp [go_sem]) (by simp [go_sem])).mono ?_
      rintro e w3 ⟨rfl, hb3⟩
      have hw3 := bl_trans hw2 (bl_trans (bl_a _) hb3)
      have ec : Hid (cmpT (termOk k bs n t) (termOk k' bs' n' t') (cmp3 (cmpI k k') (cmpB bs bs') (cmpN n (t : Int).toNat n' (t' : Int).toNat)) = cmp3 (cmpI k k') (cmpB bs bs') (cmpN n t n' t')) := by
        show _ = _
        simp [cmpT, e1, e2]
      clear hb3
      go_wp2
      go_ret
      exact ⟨by rw [ec.out]; rfl, hw3⟩
    · have e2' : termOk k' bs' n' s' = false := by simpa using e2
      have ec : Hid (∀ c, cmpT (termOk k bs n s) (termOk k' bs' n' s') c = 1) := by intro c; simp [cmpT, e1, e2']
      clear ok1 ok2 hB2 hB2' e2
      go_wp2
      go_ret
      exact ⟨by rw [ec.out]; rfl, hw2⟩
  · have e1' : termOk k bs n s = false := by simpa using e1
    clear e1
    by_cases e2 : termOk k' bs' n' s' = true
    · have ec : Hid (∀ c, cmpT (termOk k bs n s) (termOk k' bs' n' s') c = -1) := by intro c; simp [cmpT, e1', e2]
      clear ok1 ok2 hB2 hB2'
      go_wp2
      go_ret
      exact ⟨by rw [ec.out]; rfl, hw2⟩
    · have e2' : termOk k' bs' n' s' = false := by simpa using e2
      have ec : Hid (∀ c, cmpT (termOk k bs n s) (termOk k' bs' n' s') c = 0) := by intro c; simp [cmpT, e1', e2']
      clear ok1 ok2 hB2 hB2' e2
      go_wp2
      go_ret
      exact ⟨by rw [ec.out]; rfl, hw2⟩
end Go.Proofs.YtoclingolfdfeaaGreatDoor

/- CmpE -/
namespace Go.Proofs.YtoclingolfdfeaaGreatDoor
open Go.RowKit Go.Deep

theorem two_boxes (w : World) (v0 v1 v2 v3 u0 u1 u2 u3 : Value) (t : TypeId) (q : Nat) :
    At4 (((w.alloc (.cells #[v0, v1, v2, v3] t)).alloc (.cells #[u0, u1, u2, u3] t)).drewN q) w.heap.size v0 v1 v2 v3 ∧
    At4 (((w.alloc (.cells #[v0, v1, v2, v3] t)).alloc (.cells #[u0, u1, u2, u3] t)).drewN q) (w.heap.size + 1) u0 u1 u2 u3 ∧
    Below w.heap.size w (((w.alloc (.cells #[v0, v1, v2, v3] t)).alloc (.cells #[u0, u1, u2, u3] t)).drewN q) :=
  ⟨(At4.new w _ _ _ _ _).below (below_drewN (bl_a _) q), (At4.at (w.alloc _) _ _ _ _ _ _ (by simp)).below (below_drewN (Below.refl _ _) q), below_drewN (bl_alloc (bl_a _) _) q⟩
theorem bl_q {w : World} (q : Nat) : Below w.heap.size w (w.drewN q) := below_drewN (Below.refl _ _) q

set_option maxHeartbeats 1000000 in
theorem l1compareNum_any (k n k' n' : Int) (s s' : Nat) (a a' : Option Addr) (len cap len' cap' : Nat) (w : World) (hs : s ≤ 6) (h1 : -9223372036854775808 ≤ n) (h2 : n ≤ 9223372036854775807) (hs' : s' ≤ 6) (h1' : -9223372036854775808 ≤ n') (h2' : n' ≤ 9223372036854775807) :
    Calls Tryz.prog 119 #[.agg #[.int .i64 k, .slice a len cap, .int .i64 n, .int .i64 s], .agg #[.int .i64 k', .slice a' len' cap', .int .i64 n', .int .i64 s']] w fun e w' =>
      e = .returned (.int .i64 (cmpN n s n' s')) ∧ Below w.heap.size w w' := by
  have b1 := p10_pos s
  have b2 := p10_le hs
  have b3 := p10_pos (6 - s)
  have b4 : p10 (6 - s) ≤ 1000000 := p10_le (by omega)
  have r := rest_bound n s hs
  have t := tmod_bound n (p10 s) b1
  have c1 := p10_pos s'
  have c2 := p10_le hs'
  have c3 := p10_pos (6 - s')
  have c4 : p10 (6 - s') ≤ 1000000 := p10_le (by omega)
  have r' := rest_bound n' s' hs'
  have t' := tmod_bound n' (p10 s') c1
  have hc : ((6 - s : Nat) : Int) = 6 - (s : Int) := by omega
  have hc' : ((6 - s' : Nat) : Int) = 6 - (s' : Int) := by omega
  have T1 := fun w => l1pow_any s w hs
  have T2 := fun w => l1pow_any s' w hs'
  have T3 := fun w => l1pow_any (6 - s) w (by omega)
  have T4 := fun w => l1pow_any (6 - s') w (by omega)
  rw [hc] at T3
  rw [hc'] at T4
  clear hc hc'
  unfold restOf at r r'
  have hw : wrap64 (n.tmod (p10 s) * p10 (6 - s)) = n.tmod (p10 s) * p10 (6 - s) := IntWalk.wrap64_in _ ⟨by omega, by omega⟩
  have hw' : wrap64 (n'.tmod (p10 s') * p10 (6 - s')) = n'.tmod (p10 s') * p10 (6 - s') := IntWalk.wrap64_in _ ⟨by omega, by omega⟩
  by_cases hxy : n.tdiv (p10 s) = n'.tdiv (p10 s')
  · have ec : Hid (cmpN n s n' s' = cmpI (n.tmod (p10 s) * p10 (6 - s)) (n'.tmod (p10 s') * p10 (6 - s'))) := by
      show _ = _
      unfold cmpN
      rw [cmpI_eq hxy]
      rfl
    have HX : Hid (n.tdiv (p10 s) = n'.tdiv (p10 s')) := hxy
    have hne : (n.tdiv (p10 s) != n'.tdiv (p10 s')) = false := by simp [hxy]
    clear hxy
    go_enter Tryz.func119, Tryz.ntmps119
    go_wp2_with fail
    go_quiet ((go_at_call 156; first | with_reducible exact Calls.quiet_of_same (T1 _) | with_reducible exact Calls.quiet_of_same (T2 _)))
    go_wp2_with fail
    obtain ⟨hA5, hX5, hw5⟩ := two_boxes w (.int .i64 k) (.slice a len cap) (.int .i64 n) (.int .i64 s) (.int .i64 k') (.slice a' len' cap') (.int .i64 n') (.int .i64 s') 24 nq
    generalize World.drewN _ nq = w5 at hA5 hX5 hw5 ⊢
    obtain ⟨y0, y1, y2, y3, y4⟩ := id hA5
    obtain ⟨x0, x1, x2, x3, x4⟩ := id hX5
    go_quiet ((go_at_call 156; first | with_reducible exact Calls.quiet_of_same (T1 _) | with_reducible exact Calls.quiet_of_same (T3 _)))
    go_wp2_with fail
    have hA6 := hA5.below (bl_q nq)
    have hX6 := hX5.below (bl_q nq)
    have hw6 := bl_trans hw5 (bl_q nq)
    clear hA5 hX5 hw5 y0 y1 y2 y3 y4 x0 x1 x2 x3 x4
    generalize World.drewN w5 nq = w6 at hA6 hX6 hw6 ⊢
    obtain ⟨y0, y1, y2, y3, y4⟩ := id hA6
    obtain ⟨x0, x1, x2, x3, x4⟩ := id hX6
    go_quiet ((go_at_call 156; first | with_reducible exact Calls.quiet_of_same (T2 _) | with_reducible exact Calls.quiet_of_same (T4 _)))
    go_wp2_with fail
    refine (side_any _ _ _).mono ?_
    rintro e w1 ⟨rfl, rfl⟩
    go_wp2
    go_ret
    refine ⟨?_, bl_trans hw6 (bl_q _)⟩
    rw [ec.out, ← sideI_lt]
    rfl
  · have ec : Hid (cmpN n s n' s' = cmpI (n.tdiv (p10 s)) (n'.tdiv (p10 s'))) := by
      show _ = _
      unfold cmpN orI
      rw [if_neg]
      unfold cmpI
      split
      · decide
      · split
        · decide
        · omega
    have HX : Hid (n.tdiv (p10 s) ≠ n'.tdiv (p10 s')) := hxy
    have hne : (n.tdiv (p10 s) != n'.tdiv (p10 s')) = true := by simp [hxy]
    clear hxy
    go_enter Tryz.func119, Tryz.ntmps119
    go_wp2_with fail
    go_quiet ((go_at_call 156; first | with_reducible exact Calls.quiet_of_same (T1 _) | with_reducible exact Calls.quiet_of_same (T2 _)))
    go_wp2_with fail
    refine (side_any _ _ _).mono ?_
    rintro e w1 ⟨rfl, rfl⟩
    go_wp2
    go_ret
    refine ⟨?_, below_drewN (bl_alloc (bl_a _) _) _⟩
    rw [ec.out, ← sideI_ne _ _ HX.out]
    rfl

theorem cmpB_nil : cmpB [] [] = 0 := rfl
theorem cmpN_blank (n n' : Int) : cmpN n 0 n' 0 = cmpI n n' := by
  have e1 : p10 0 = 1 := rfl
  have e2 : restOf n 0 = 0 := by simp [restOf, e1]
  have e3 : restOf n' 0 = 0 := by simp [restOf, e1]
  unfold cmpN
  rw [e1, e2, e3, Int.tdiv_one, Int.tdiv_one]
  unfold orI
  split
  · rename_i h; rw [h]; rfl
  · rfl

/-- The model's comparing of two strings is the program's. -/
theorem less_cmp : ∀ (xs ys : List UInt8), Lib.compareBytes xs ys = if Op.bytesLess xs ys then -1 else if (!Op.bytesLess xs ys && !(xs == ys)) then 1 else 0 := by
  intro xs
  induction xs with
  | nil => intro ys; cases ys <;> simp [Lib.compareBytes, Op.bytesLess]
  | cons x xs ih =>
    intro ys
    cases ys with
    | nil => simp [Lib.compareBytes, Op.bytesLess]
    | cons y ys =>
      unfold Lib.compareBytes
      by_cases h1 : x < y
      · simp [h1, Op.bytesLess]
      · by_cases h2 : y < x
        · have hne : x ≠ y := by intro e; subst e; exact h1 h2
          simp [h1, h2, Op.bytesLess, hne]
        · have hxy : x = y := UInt8.le_antisymm (UInt8.not_lt.1 h2) (UInt8.not_lt.1 h1)
          subst hxy
          rw [ih]
          simp [h1, Op.bytesLess]
end Go.Proofs.YtoclingolfdfeaaGreatDoor

/- CmpF -/
namespace Go.Proofs.YtoclingolfdfeaaGreatDoor
open Go.RowKit Go.Deep

theorem sideI_str (bs bs' : List Int) : sideI (Op.bytesLess (strOfNums bs).toList (strOfNums bs').toList) (!Op.bytesLess (strOfNums bs).toList (strOfNums bs').toList && !((strOfNums bs).toList == (strOfNums bs').toList)) = cmpB bs bs' := by
  unfold cmpB
  rw [less_cmp, Lib.strOfNums_toList, Lib.strOfNums_toList]
  rfl

theorem termOk_blank {n s : Int} {bs : List Int} (h : termOk 1 bs n s = true) : bs = [] ∧ s = 0 := by
  simp [termOk] at h
  exact ⟨h.1.1.1, h.2⟩
theorem termOk_num {n s : Int} {bs : List Int} (h : termOk 3 bs n s = true) : bs = [] := by
  simp [termOk] at h
  exact h.1
theorem termOk_str {k n s : Int} {bs : List Int} (h : termOk k bs n s = true) (h1 : k ≠ 1) (h3 : k ≠ 3) : n = 0 ∧ s = 0 := by
  by_cases k0 : k = 0
  · subst k0
    simp [termOk] at h
    exact ⟨h.1.2, h.2⟩
  by_cases k2 : k = 2
  · subst k2
    simp [termOk] at h
    exact ⟨h.1.2, h.2⟩
  · simp [termOk, k0, h1, k2, h3] at h
theorem cmpI_ne {x y : Int} (h : x ≠ y) : cmpI x y ≠ 0 := by
  unfold cmpI
  split
  · decide
  · split
    · decide
    · omega

set_option maxHeartbeats 1000000 in
theorem l1compare_any (k n k' n' : Int) (s s' : Nat) (a a' : Option Addr) (len cap len' cap' : Nat) (bs bs' : List Int) (w : World) (hB : Bs w a len bs) (hB' : Bs w a' len' bs')
    (hs : s ≤ 6) (h1 : -9223372036854775808 ≤ n) (h2 : n ≤ 9223372036854775807) (hs' : s' ≤ 6) (h1' : -9223372036854775808 ≤ n') (h2' : n' ≤ 9223372036854775807) (e1 : termOk k bs n s = true) (e2 : termOk k' bs' n' s' = true) :
    Calls Tryz.prog 76 #[.agg #[.int .i64 k, .slice a len cap, .int .i64 n, .int .i64 s], .agg #[.int .i64 k', .slice a' len' cap', .int .i64 n', .int .i64 s']] w fun e w' =>
      e = .returned (.int .i64 (cmp3 (cmpI k k') (cmpB bs bs') (cmpN n s n' s'))) ∧ Below w.heap.size w w' := by
  by_cases hk : k = k'
  · subst hk
    have c0 : cmpI k k = 0 := cmpI_eq rfl
    by_cases k1 : k = 1
    · subst k1
      obtain ⟨rfl, g1⟩ := termOk_blank e1
      obtain ⟨rfl, g2⟩ := termOk_blank e2
      obtain rfl : s = 0 := by omega
      obtain rfl : s' = 0 := by omega
      have ec : Hid (cmp3 (cmpI 1 1) (cmpB [] []) (cmpN n (0 : Nat) n' (0 : Nat)) = cmpI n n') := by
        show _ = _
        rw [c0, cmpB_nil, cmpN_blank]
        rfl
      clear c0 e1 e2 hB hB' g1 g2
      go_enter Tryz.func76, Tryz.ntmps76
      go_wp2_with fail
      refine (side_any _ _ _).mono ?_
      rintro e w1 ⟨rfl, rfl⟩
      go_wp2
      go_ret
      refine ⟨?_, bl_alloc (bl_a _) _⟩
      rw [ec.out, ← sideI_lt]
      rfl
    by_cases k3 : k = 3
    · subst k3
      obtain rfl := termOk_num e1
      obtain rfl := termOk_num e2
      have ec : Hid (cmp3 (cmpI 3 3) (cmpB [] []) (cmpN n s n' s') = cmpN n s n' s') := by
        show _ = _
        rw [c0, cmpB_nil]
        rfl
      clear c0 e1 e2 hB hB'
      go_enter Tryz.func76, Tryz.ntmps76
      go_wp2_with fail
      refine (l1compareNum_any 3 n 3 n' s s' a a' len cap len' cap' _ hs h1 h2 hs' h1' h2').mono ?_
      rintro e w1 ⟨rfl, hb1⟩
      go_wp2
      go_ret
      exact ⟨by rw [ec.out]; rfl, bl_trans (bl_alloc (bl_a _) _) hb1⟩
    · obtain ⟨rfl, g1⟩ := termOk_str e1 k1 k3
      obtain ⟨rfl, g2⟩ := termOk_str e2 k1 k3
      obtain rfl : s = 0 := by omega
      obtain rfl : s' = 0 := by omega
      have ec : Hid (cmp3 (cmpI k k) (cmpB bs bs') (cmpN 0 (0 : Nat) 0 (0 : Nat)) = cmpB bs bs') := by
        show _ = _
        rw [c0, cmpN_blank, cmpI_eq rfl]
        unfold cmp3 orI
        simp
        intro h; exact h.symm
      have v1 : ∀ o1 o2, (convert 22 9 (.slice a len cap)).run Tryz.prog ((w.alloc o1).alloc o2) = .ok (.string (strOfNums bs)) ((w.alloc o1).alloc o2) := fun o1 o2 => (hB.below (bl_alloc (bl_a _) _)).str
      have v2 : ∀ o1 o2, (convert 22 9 (.slice a' len' cap')).run Tryz.prog ((w.alloc o1).alloc o2) = .ok (.string (strOfNums bs')) ((w.alloc o1).alloc o2) := fun o1 o2 => (hB'.below (bl_alloc (bl_a _) _)).str
      have g1' : (k == 1) = false := by simp; omega
      have g3' : (k == 3) = false := by simp; omega
      clear c0 e1 e2 hB hB' g1 g2 k1 k3
      go_enter Tryz.func76, Tryz.ntmps76
      go_wp2_with fail
      refine (side_any _ _ _).mono ?_
      rintro e w1 ⟨rfl, rfl⟩
      go_wp2
      go_ret
      refine ⟨?_, bl_alloc (bl_a _) _⟩
      rw [ec.out, ← sideI_str]
      rfl
  · have ec : Hid (cmp3 (cmpI k k') (cmpB bs bs') (cmpN n s n' s') = cmpI k k') := by
      show orI _ _ = _
      rw [orI, if_neg (cmpI_ne hk)]
    have HK : Hid (k ≠ k') := hk
    have hk' : (k != k') = true := by simp [hk]
    clear hk e1 e2 hB hB'
    go_enter Tryz.func76, Tryz.ntmps76
    go_wp2_with fail
    refine (side_any _ _ _).mono ?_
    rintro e w1 ⟨rfl, rfl⟩
    go_wp2
    go_ret
    refine ⟨?_, bl_alloc (bl_a _) _⟩
    rw [ec.out, ← sideI_ne _ _ HK.out]
    rfl

end Go.Proofs.YtoclingolfdfeaaGreatDoor
