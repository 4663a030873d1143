/- Texts put together: TriC CmpC CmpD CmpE CmpF GraF ReR DrwC -/
import Derived.Test.YtiodiooaaojbhaaGreatDoorNk03
import Derived.Test.YtiodiooaaojbhaaGreatDoorNk02
import Derived.Lib.Bytealg
import Derived.Lib.Bytes
import Derived.Laws.BytesArg
import Derived.Laws.Externs
import Derived.Deep.RegionHeld3
import Derived.Test.YtiodiooaaojbhaaGreatDoorNk01
/- TriC -/
namespace Go.Proofs.YtiodiooaaojbhaaGreatDoor
open Go.RowKit Go.Deep

/-- A triple that may be. -/
def tripleOk (t u v : Tm) (bt bu bv : List Int) : Bool := termOk t.k bt t.n t.s && termOk u.k bu u.n u.s && termOk v.k bv v.n v.s && decide (t.k ≤ 1) && (u.k == 0)

theorem specTripleOk_any (t u v : Tm) (bt bu bv : List Int) (w : World) (ft : t.fits) (fu : u.fits) (fv : v.fits) (hT : Bs w t.a t.len bt) (hU : Bs w u.a u.len bu) (hV : Bs w v.a v.len bv) :
    Calls Tryz.prog 32 #[.agg #[.int .i64 t.k, .slice t.a t.len t.cap, .int .i64 t.n, .int .i64 t.s, .int .i64 u.k, .slice u.a u.len u.cap, .int .i64 u.n, .int .i64 u.s, .int .i64 v.k, .slice v.a v.len v.cap, .int .i64 v.n, .int .i64 v.s]] w fun e w' => e = .returned (.bool (tripleOk t u v bt bu bv)) ∧ Below w.heap.size w w' := by
  have O1 := fun w h => specTermOk_any t.k t.n t.s t.a t.len t.cap bt w h ft.1 ft.2.1
  have O2 := fun w h => specTermOk_any u.k u.n u.s u.a u.len u.cap bu w h fu.1 fu.2.1
  have O3 := fun w h => specTermOk_any v.k v.n v.s v.a v.len v.cap bv w h fv.1 fv.2.1
  clear ft fu fv
  cases e1 : termOk t.k bt t.n t.s
  · have er : tripleOk t u v bt bu bv = false := by simp [tripleOk, e1]
    rw [er]
    rw [e1] at O1
    clear er e1
    go_enter Tryz.func32, Tryz.ntmps32
    go_wp2_with fail
    refine (O1 _ (hT.below (bl_a _))).mono ?_
    rintro e w1 ⟨rfl, o1, rfl⟩
    go_wp2
    go_ret
    exact ⟨rfl, bl_alloc (bl_a _) _⟩
  cases e2 : termOk u.k bu u.n u.s
  · have er : tripleOk t u v bt bu bv = false := by simp [tripleOk, e2]
    rw [er]
    rw [e1] at O1
    rw [e2] at O2
    clear er e1 e2
    go_enter Tryz.func32, Tryz.ntmps32
    go_wp2_with fail
    refine (O1 _ (hT.below (bl_a _))).mono ?_
    rintro e w1 ⟨rfl, o1, rfl⟩
    go_wp2_with fail
    refine (O2 _ (hU.below (bl_alloc (bl_a _) _))).mono ?_
    rintro e w1 ⟨rfl, o2, rfl⟩
    go_wp2
    go_ret
    exact ⟨rfl, bl_alloc (bl_alloc (bl_a _) _) _⟩
  cases e3 : termOk v.k bv v.n v.s
  · have er : tripleOk t u v bt bu bv = false := by simp [tripleOk, e3]
    rw [er]
    rw [e1] at O1
    rw [e2] at O2
    rw [e3] at O3
    clear er e1 e2 e3
    go_enter Tryz.func32, Tryz.ntmps32
    go_wp2_with fail
    refine (O1 _ (hT.below (bl_a _))).mono ?_
    rintro e w1 ⟨rfl, o1, rfl⟩
    go_wp2_with fail
    refine (O2 _ (hU.below (bl_alloc (bl_a _) _))).mono ?_
    rintro e w1 ⟨rfl, o2, rfl⟩
    go_wp2_with fail
    refine (O3 _ (hV.below (bl_alloc (bl_alloc (bl_a _) _) _))).mono ?_
    rintro e w1 ⟨rfl, o3, rfl⟩
    go_wp2
    go_ret
    exact ⟨rfl, bl_alloc (bl_alloc (bl_alloc (bl_a _) _) _) _⟩
  rw [e1] at O1
  rw [e2] at O2
  rw [e3] at O3
  cases c1 : decide (t.k ≤ 1)
  · have er : Hid (tripleOk t u v bt bu bv = false) := by show _ = _; simp [tripleOk, c1]
    clear e1 e2 e3
    go_enter Tryz.func32, Tryz.ntmps32
    go_wp2_with fail
    refine (O1 _ (hT.below (bl_a _))).mono ?_
    rintro e w1 ⟨rfl, o1, rfl⟩
    go_wp2_with fail
    refine (O2 _ (hU.below (bl_alloc (bl_a _) _))).mono ?_
    rintro e w1 ⟨rfl, o2, rfl⟩
    go_wp2_with fail
    refine (O3 _ (hV.below (bl_alloc (bl_alloc (bl_a _) _) _))).mono ?_
    rintro e w1 ⟨rfl, o3, rfl⟩
    go_wp2
    go_ret
    exact ⟨by rw [er.out]; rfl, bl_alloc (bl_alloc (bl_alloc (bl_a _) _) _) _⟩
  · have er : Hid (tripleOk t u v bt bu bv = (u.k == 0)) := by show _ = _; simp [tripleOk, e1, e2, e3, c1]
    clear e1 e2 e3
    go_enter Tryz.func32, Tryz.ntmps32
    go_wp2_with fail
    refine (O1 _ (hT.below (bl_a _))).mono ?_
    rintro e w1 ⟨rfl, o1, rfl⟩
    go_wp2_with fail
    refine (O2 _ (hU.below (bl_alloc (bl_a _) _))).mono ?_
    rintro e w1 ⟨rfl, o2, rfl⟩
    go_wp2_with fail
    refine (O3 _ (hV.below (bl_alloc (bl_alloc (bl_a _) _) _))).mono ?_
    rintro e w1 ⟨rfl, o3, rfl⟩
    go_wp2
    go_ret
    exact ⟨by rw [er.out]; rfl, bl_alloc (bl_alloc (bl_alloc (bl_a _) _) _) _⟩

theorem isSubject_any (t : Tm) (bt : List Int) (w : World) (ft : t.fits) (hT : Bs w t.a t.len bt) :
    Calls Tryz.prog 80 #[.agg #[.int .i64 t.k, .slice t.a t.len t.cap, .int .i64 t.n, .int .i64 t.s]] w fun e w' => e = .returned (.bool (termOk t.k bt t.n t.s && decide (t.k ≤ 1))) ∧ Below w.heap.size w w' := by
  have O1 := fun w h => implTermOk_any t.k t.n t.s t.a t.len t.cap bt w h ft.1 ft.2.1 ft.2.2.1 ft.2.2.2
  clear ft
  cases e1 : termOk t.k bt t.n t.s
  · rw [e1] at O1
    clear e1
    go_enter Tryz.func80, Tryz.ntmps80
    go_wp2_with fail
    refine (O1 _ (hT.below (bl_a _))).mono ?_
    rintro e w1 ⟨rfl, hb1⟩
    go_wp2
    go_ret
    exact ⟨rfl, bl_trans (bl_a _) hb1⟩
  have hk : 0 ≤ t.k := by
    unfold termOk at e1
    split at e1
    · omega
    · split at e1
      · omega
      · split at e1
        · omega
        · split at e1
          · omega
          · cases e1
  rw [e1] at O1
  clear e1
  simp only [Bool.true_and]
  cases c0 : (t.k == 0)
  · have er : Hid (decide (t.k ≤ 1) = (t.k == 1)) := by
      show _ = _
      have : t.k ≠ 0 := by simpa using c0
      by_cases c1 : t.k = 1
      · simp [c1]
      · have : ¬ t.k ≤ 1 := by omega
        simp [c1, this]
    go_enter Tryz.func80, Tryz.ntmps80
    go_wp2_with fail
    refine (O1 _ (hT.below (bl_a _))).mono ?_
    rintro e w1 ⟨rfl, hb1⟩
    have hA := (At4.new w _ _ _ _ _).below hb1
    obtain ⟨x0, x1, x2, x3, x4⟩ := id hA
    go_wp2
    go_ret
    exact ⟨by rw [er.out]; rfl, bl_trans (bl_a _) hb1⟩
  · have er : Hid (decide (t.k ≤ 1) = true) := by
      show _ = _
      have : t.k = 0 := by simpa using c0
      simp [this]
    go_enter Tryz.func80, Tryz.ntmps80
    go_wp2_with fail
    refine (O1 _ (hT.below (bl_a _))).mono ?_
    rintro e w1 ⟨rfl, hb1⟩
    have hA := (At4.new w _ _ _ _ _).below hb1
    obtain ⟨x0, x1, x2, x3, x4⟩ := id hA
    go_wp2
    go_ret
    exact ⟨by rw [er.out]; rfl, bl_trans (bl_a _) hb1⟩

theorem isProperty_any (t : Tm) (bt : List Int) (w : World) (ft : t.fits) (hT : Bs w t.a t.len bt) :
    Calls Tryz.prog 81 #[.agg #[.int .i64 t.k, .slice t.a t.len t.cap, .int .i64 t.n, .int .i64 t.s]] w fun e w' => e = .returned (.bool (termOk t.k bt t.n t.s && (t.k == 0))) ∧ Below w.heap.size w w' := by
  have O1 := fun w h => implTermOk_any t.k t.n t.s t.a t.len t.cap bt w h ft.1 ft.2.1 ft.2.2.1 ft.2.2.2
  clear ft
  cases e1 : termOk t.k bt t.n t.s
  · rw [e1] at O1
    clear e1
    go_enter Tryz.func81, Tryz.ntmps81
    go_wp2_with fail
    refine (O1 _ (hT.below (bl_a _))).mono ?_
    rintro e w1 ⟨rfl, hb1⟩
    go_wp2
    go_ret
    exact ⟨rfl, bl_trans (bl_a _) hb1⟩
  rw [e1] at O1
  clear e1
  simp only [Bool.true_and]
  go_enter Tryz.func81, Tryz.ntmps81
  go_wp2_with fail
  refine (O1 _ (hT.below (bl_a _))).mono ?_
  rintro e w1 ⟨rfl, hb1⟩
  have hA := (At4.new w _ _ _ _ _).below hb1
  obtain ⟨x0, x1, x2, x3, x4⟩ := id hA
  go_wp2
  go_ret
  exact ⟨rfl, bl_trans (bl_a _) hb1⟩

end Go.Proofs.YtiodiooaaojbhaaGreatDoor

/- CmpC -/
namespace Go.Proofs.YtiodiooaaojbhaaGreatDoor
open Go.RowKit Go.Deep

/-- Two texts by their bytes. -/
def cmpB (xs ys : List Int) : Int := Lib.compareBytes (Lib.bytesOf xs) (Lib.bytesOf ys)

theorem run_loadBytes {P : Program} (w : World) (b : Nat) : ∀ (n off : Nat) (bs : List Int) (acc : ByteArray), bs.length = n → (∀ i, i < n → w.cell? ⟨b, off + i, none⟩ = some (.int .u8 (bs[i]?.getD 0))) →
    (Extern.Bytes.loadBytes ⟨b, off, none⟩ n acc).run P w = .ok (bs.foldl (fun r n => r.push (UInt8.ofNat n.toNat)) acc) w
  | 0, off, bs, acc, hl, _ => by
    rw [List.eq_nil_of_length_eq_zero hl]
    rfl
  | n + 1, off, [], acc, hl, _ => by simp at hl
  | n + 1, off, x :: bs, acc, hl, hc => by
    have h0 : w.cell? ⟨b, off, none⟩ = some (.int .u8 x) := by simpa using hc 0 (by omega)
    have ih := run_loadBytes (P := P) w b n (off + 1) bs (acc.push (UInt8.ofNat x.toNat)) (by simpa using hl) (fun i hi => by
      have := hc (i + 1) (by omega)
      simp at this
      rw [show off + 1 + i = off + (i + 1) by omega]
      exact this)
    have ea : (⟨b, off, none⟩ : Addr).add 1 = ⟨b, off + 1, none⟩ := by simp [Addr.add]
    have hld : (load ⟨b, off, none⟩).run P w = .ok (.int .u8 x) w := by simp [go_sem, h0]
    unfold Extern.Bytes.loadBytes
    simp only [Sem.run_bind, hld, Result.andThen]
    rw [ea]
    exact ih

theorem Bs.bytes {P : Program} {w : World} {a : Option Addr} {len cap : Nat} {bs : List Int} (h : Bs w a len bs) : (Extern.Bytes.bytesOf (.slice a len cap)).run P w = .ok (strOfNums bs) w := by
  obtain ⟨hl, _, _, h4⟩ := h
  rcases h4 with h4 | ⟨b, off, rfl, _, hc⟩
  · subst h4
    have e : bs = [] := List.eq_nil_of_length_eq_zero hl
    subst e
    cases a with
    | none => rfl
    | some x => rfl
  · have := run_loadBytes (P := P) w b len off bs .empty hl hc
    show (Extern.Bytes.loadBytes ⟨b, off, none⟩ len .empty).run P w = _
    rw [this, foldl_push_bytes]
    simp [strOfNums, ByteArray.empty, ByteArray.emptyWithCapacity]
    rfl

theorem bytealg_any (a a' : Option Addr) (len cap len' cap' : Nat) (bs bs' : List Int) (w : World) (hB : Bs w a len bs) (hB' : Bs w a' len' bs') :
    (callFunc 110 #[.slice a len cap, .slice a' len' cap']).run Tryz.prog w = .ok (.value (.int .i64 (cmpB bs bs'))) w := by
  rw [run_callFunc_extern Tryz.func110 (by kernel_rfl) (by kernel_rfl) (by kernel_rfl) (e := Extern.BytealgCompare.compare) (by kernel_rfl)]
  have : (Extern.BytealgCompare.compare #[.slice a len cap, .slice a' len' cap']).run Tryz.prog w = .ok (.int .i64 (cmpB bs bs')) w := by
    change Sem.run Tryz.prog (do pure (goInt (Extern.BytealgCompare.cmp (← Extern.Bytes.bytesOf (.slice a len cap)) (← Extern.Bytes.bytesOf (.slice a' len' cap'))))) w = _
    simp only [Sem.run_bind, hB.bytes, hB'.bytes, Sem.run_pure, Result.andThen]
    rw [Lib.cmp_eq]
    rfl
  rw [this]
  rfl

theorem bytesCompare_any (a a' : Option Addr) (len cap len' cap' : Nat) (bs bs' : List Int) (w : World) (hB : Bs w a len bs) (hB' : Bs w a' len' bs') :
    Calls Tryz.prog 92 #[.slice a len cap, .slice a' len' cap'] w fun e w' => e = .returned (.int .i64 (cmpB bs bs')) ∧ w' = w := by
  have hx := bytealg_any a a' len cap len' cap' bs bs' w hB hB'
  clear hB hB'
  go_enter Tryz.func92, Tryz.ntmps92
  go_wp2
  go_ret
  exact ⟨rfl, rfl⟩

end Go.Proofs.YtiodiooaaojbhaaGreatDoor

/- CmpD -/
namespace Go.Proofs.YtiodiooaaojbhaaGreatDoor
open Go.RowKit Go.Deep

theorem cell_keep {w w' : World} (hb : Below w.heap.size w w') {p : Addr} {v : Value} (h : w.cell? p = some v) (hp : p.block < w.heap.size) : w'.cell? p = some v := (hb.cell hp).trans h

theorem At4.at (w : World) (b : Nat) (v0 v1 v2 v3 : Value) (t : TypeId) (e : b = w.heap.size) : At4 (w.alloc (.cells #[v0, v1, v2, v3] t)) b v0 v1 v2 v3 := by
  subst e; exact At4.new w v0 v1 v2 v3 t

/-- Two terms that may be: by kind, by text, by number: the first that tells. -/
def cmp3 (x y z : Int) : Int := orI x (orI y z)

theorem termOk_scale {k n s : Int} {bs : List Int} (h : termOk k bs n s = true) : 0 ≤ s ∧ s ≤ 6 := by
  unfold termOk at h
  split at h
  · simp at h; omega
  split at h
  · simp at h; omega
  split at h
  · simp at h; omega
  split at h
  · simp [numOk] at h; omega
  · simp at h

/-- Whatever two terms: what may not be first. -/
def cmpT (ok ok' : Bool) (c : Int) : Int := if ok then (if ok' then c else 1) else (if ok' then -1 else 0)

end Go.Proofs.YtiodiooaaojbhaaGreatDoor

/- CmpE -/
namespace Go.Proofs.YtiodiooaaojbhaaGreatDoor
open Go.RowKit Go.Deep

theorem two_boxes (w : World) (v0 v1 v2 v3 u0 u1 u2 u3 : Value) (t : TypeId) (q : Nat) :
    At4 (((w.alloc (.cells #[v0, v1, v2, v3] t)).alloc (.cells #[u0, u1, u2, u3] t)).drewN q) w.heap.size v0 v1 v2 v3 ∧
    At4 (((w.alloc (.cells #[v0, v1, v2, v3] t)).alloc (.cells #[u0, u1, u2, u3] t)).drewN q) (w.heap.size + 1) u0 u1 u2 u3 ∧
    Below w.heap.size w (((w.alloc (.cells #[v0, v1, v2, v3] t)).alloc (.cells #[u0, u1, u2, u3] t)).drewN q) :=
  ⟨(At4.new w _ _ _ _ _).below (below_drewN (bl_a _) q), (At4.at (w.alloc _) _ _ _ _ _ _ (by simp)).below (below_drewN (Below.refl _ _) q), below_drewN (bl_alloc (bl_a _) _) q⟩
theorem bl_q {w : World} (q : Nat) : Below w.heap.size w (w.drewN q) := below_drewN (Below.refl _ _) q

set_option maxHeartbeats 1000000 in
theorem l1compareNum_any (k n k' n' : Int) (s s' : Nat) (a a' : Option Addr) (len cap len' cap' : Nat) (w : World) (hs : s ≤ 6) (h1 : -9223372036854775808 ≤ n) (h2 : n ≤ 9223372036854775807) (hs' : s' ≤ 6) (h1' : -9223372036854775808 ≤ n') (h2' : n' ≤ 9223372036854775807) :
    Calls Tryz.prog 98 #[.agg #[.int .i64 k, .slice a len cap, .int .i64 n, .int .i64 s], .agg #[.int .i64 k', .slice a' len' cap', .int .i64 n', .int .i64 s']] w fun e w' =>
      e = .returned (.int .i64 (cmpN n s n' s')) ∧ Below w.heap.size w w' := by
  have b1 := p10_pos s
  have b2 := p10_le hs
  have b3 := p10_pos (6 - s)
  have b4 : p10 (6 - s) ≤ 1000000 := p10_le (by omega)
  have r := rest_bound n s hs
  have t := tmod_bound n (p10 s) b1
  have c1 := p10_pos s'
  have c2 := p10_le hs'
  have c3 := p10_pos (6 - s')
  have c4 : p10 (6 - s') ≤ 1000000 := p10_le (by omega)
  have r' := rest_bound n' s' hs'
  have t' := tmod_bound n' (p10 s') c1
  have hc : ((6 - s : Nat) : Int) = 6 - (s : Int) := by omega
  have hc' : ((6 - s' : Nat) : Int) = 6 - (s' : Int) := by omega
  have T1 := fun w => l1pow_any s w hs
  have T2 := fun w => l1pow_any s' w hs'
  have T3 := fun w => l1pow_any (6 - s) w (by omega)
  have T4 := fun w => l1pow_any (6 - s') w (by omega)
  rw [hc] at T3
  rw [hc'] at T4
  clear hc hc'
  unfold restOf at r r'
  have hw : wrap64 (n.tmod (p10 s) * p10 (6 - s)) = n.tmod (p10 s) * p10 (6 - s) := IntWalk.wrap64_in _ ⟨by omega, by omega⟩
  have hw' : wrap64 (n'.tmod (p10 s') * p10 (6 - s')) = n'.tmod (p10 s') * p10 (6 - s') := IntWalk.wrap64_in _ ⟨by omega, by omega⟩
  by_cases hxy : n.tdiv (p10 s) = n'.tdiv (p10 s')
  · have ec : Hid (cmpN n s n' s' = cmpI (n.tmod (p10 s) * p10 (6 - s)) (n'.tmod (p10 s') * p10 (6 - s'))) := by
      show _ = _
      unfold cmpN
      rw [cmpI_eq hxy]
      rfl
    have HX : Hid (n.tdiv (p10 s) = n'.tdiv (p10 s')) := hxy
    have hne : (n.tdiv (p10 s) != n'.tdiv (p10 s')) = false := by simp [hxy]
    clear hxy
    go_enter Tryz.func98, Tryz.ntmps98
    go_wp2_with fail
    go_quiet ((go_at_call 99; first | with_reducible exact Calls.quiet_of_same (T1 _) | with_reducible exact Calls.quiet_of_same (T2 _)))
    go_wp2_with fail
    obtain ⟨hA5, hX5, hw5⟩ := two_boxes w (.int .i64 k) (.slice a len cap) (.int .i64 n) (.int .i64 s) (.int .i64 k') (.slice a' len' cap') (.int .i64 n') (.int .i64 s') 43 nq
    generalize World.drewN _ nq = w5 at hA5 hX5 hw5 ⊢
    obtain ⟨y0, y1, y2, y3, y4⟩ := id hA5
    obtain ⟨x0, x1, x2, x3, x4⟩ := id hX5
    go_quiet ((go_at_call 99; first | with_reducible exact Calls.quiet_of_same (T1 _) | with_reducible exact Calls.quiet_of_same (T3 _)))
    go_wp2_with fail
    have hA6 := hA5.below (bl_q nq)
    have hX6 := hX5.below (bl_q nq)
    have hw6 := bl_trans hw5 (bl_q nq)
    clear hA5 hX5 hw5 y0 y1 y2 y3 y4 x0 x1 x2 x3 x4
    generalize World.drewN w5 nq = w6 at hA6 hX6 hw6 ⊢
    obtain ⟨y0, y1, y2, y3, y4⟩ := id hA6
    obtain ⟨x0, x1, x2, x3, x4⟩ := id hX6
    go_quiet ((go_at_call 99; first | with_reducible exact Calls.quiet_of_same (T2 _) | with_reducible exact Calls.quiet_of_same (T4 _)))
    go_wp2_with fail
    refine (side_any _ _ _).mono ?_
    rintro e w1 ⟨rfl, rfl⟩
    go_wp2
    go_ret
    refine ⟨?_, bl_trans hw6 (bl_q _)⟩
    rw [ec.out, ← sideI_lt]
    rfl
  · have ec : Hid (cmpN n s n' s' = cmpI (n.tdiv (p10 s)) (n'.tdiv (p10 s'))) := by
      show _ = _
      unfold cmpN orI
      rw [if_neg]
      unfold cmpI
      split
      · decide
      · split
        · decide
        · omega
    have HX : Hid (n.tdiv (p10 s) ≠ n'.tdiv (p10 s')) := hxy
    have hne : (n.tdiv (p10 s) != n'.tdiv (p10 s')) = true := by simp [hxy]
    clear hxy
    go_enter Tryz.func98, Tryz.ntmps98
    go_wp2_with fail
    go_quiet ((go_at_call 99; first | with_reducible exact Calls.quiet_of_same (T1 _) | with_reducible exact Calls.quiet_of_same (T2 _)))
    go_wp2_with fail
    refine (side_any _ _ _).mono ?_
    rintro e w1 ⟨rfl, rfl⟩
    go_wp2
    go_ret
    refine ⟨?_, below_drewN (bl_alloc (bl_a _) _) _⟩
    rw [ec.out, ← sideI_ne _ _ HX.out]
    rfl

theorem cmpB_nil : cmpB [] [] = 0 := rfl
theorem cmpN_blank (n n' : Int) : cmpN n 0 n' 0 = cmpI n n' := by
  have e1 : p10 0 = 1 := rfl
  have e2 : restOf n 0 = 0 := by simp [restOf, e1]
  have e3 : restOf n' 0 = 0 := by simp [restOf, e1]
  unfold cmpN
  rw [e1, e2, e3, Int.tdiv_one, Int.tdiv_one]
  unfold orI
  split
  · rename_i h; rw [h]; rfl
  · rfl

/-- The model's comparing of two strings is the program's. -/
theorem less_cmp : ∀ (xs ys : List UInt8), Lib.compareBytes xs ys = if Op.bytesLess xs ys then -1 else if (!Op.bytesLess xs ys && !(xs == ys)) then 1 else 0 := by
  intro xs
  induction xs with
  | nil => intro ys; cases ys <;> simp [Lib.compareBytes, Op.bytesLess]
  | cons x xs ih =>
    intro ys
    cases ys with
    | nil => simp [Lib.compareBytes, Op.bytesLess]
    | cons y ys =>
      unfold Lib.compareBytes
      by_cases h1 : x < y
      · simp [h1, Op.bytesLess]
      · by_cases h2 : y < x
        · have hne : x ≠ y := by intro e; subst e; exact h1 h2
          simp [h1, h2, Op.bytesLess, hne]
        · have hxy : x = y := UInt8.le_antisymm (UInt8.not_lt.1 h2) (UInt8.not_lt.1 h1)
          subst hxy
          rw [ih]
          simp [h1, Op.bytesLess]
end Go.Proofs.YtiodiooaaojbhaaGreatDoor

/- CmpF -/
namespace Go.Proofs.YtiodiooaaojbhaaGreatDoor
open Go.RowKit Go.Deep

theorem sideI_str (bs bs' : List Int) : sideI (Op.bytesLess (strOfNums bs).toList (strOfNums bs').toList) (!Op.bytesLess (strOfNums bs).toList (strOfNums bs').toList && !((strOfNums bs).toList == (strOfNums bs').toList)) = cmpB bs bs' := by
  unfold cmpB
  rw [less_cmp, Lib.strOfNums_toList, Lib.strOfNums_toList]
  rfl

theorem termOk_blank {n s : Int} {bs : List Int} (h : termOk 1 bs n s = true) : bs = [] ∧ s = 0 := by
  simp [termOk] at h
  exact ⟨h.1.1.1, h.2⟩
theorem termOk_num {n s : Int} {bs : List Int} (h : termOk 3 bs n s = true) : bs = [] := by
  simp [termOk] at h
  exact h.1
theorem termOk_str {k n s : Int} {bs : List Int} (h : termOk k bs n s = true) (h1 : k ≠ 1) (h3 : k ≠ 3) : n = 0 ∧ s = 0 := by
  by_cases k0 : k = 0
  · subst k0
    simp [termOk] at h
    exact ⟨h.1.2, h.2⟩
  by_cases k2 : k = 2
  · subst k2
    simp [termOk] at h
    exact ⟨h.1.2, h.2⟩
  · simp [termOk, k0, h1, k2, h3] at h
theorem cmpI_ne {x y : Int} (h : x ≠ y) : cmpI x y ≠ 0 := by
  unfold cmpI
  split
  · decide
  · split
    · decide
    · omega

set_option maxHeartbeats 1000000 in
theorem l1compare_any (k n k' n' : Int) (s s' : Nat) (a a' : Option Addr) (len cap len' cap' : Nat) (bs bs' : List Int) (w : World) (hB : Bs w a len bs) (hB' : Bs w a' len' bs')
    (hs : s ≤ 6) (h1 : -9223372036854775808 ≤ n) (h2 : n ≤ 9223372036854775807) (hs' : s' ≤ 6) (h1' : -9223372036854775808 ≤ n') (h2' : n' ≤ 9223372036854775807) (e1 : termOk k bs n s = true) (e2 : termOk k' bs' n' s' = true) :
    Calls Tryz.prog 63 #[.agg #[.int .i64 k, .slice a len cap, .int .i64 n, .int .i64 s], .agg #[.int .i64 k', .slice a' len' cap', .int .i64 n', .int .i64 s']] w fun e w' =>
      e = .returned (.int .i64 (cmp3 (cmpI k k') (cmpB bs bs') (cmpN n s n' s'))) ∧ Below w.heap.size w w' := by
  by_cases hk : k = k'
  · subst hk
    have c0 : cmpI k k = 0 := cmpI_eq rfl
    by_cases k1 : k = 1
    · subst k1
      obtain ⟨rfl, g1⟩ := termOk_blank e1
      obtain ⟨rfl, g2⟩ := termOk_blank e2
      obtain rfl : s = 0 := by omega
      obtain rfl : s' = 0 := by omega
      have ec : Hid (cmp3 (cmpI 1 1) (cmpB [] []) (cmpN n (0 : Nat) n' (0 : Nat)) = cmpI n n') := by
        show _ = _
        rw [c0, cmpB_nil, cmpN_blank]
        rfl
      clear c0 e1 e2 hB hB' g1 g2
      go_enter Tryz.func63, Tryz.ntmps63
      go_wp2_with fail
      refine (side_any _ _ _).mono ?_
      rintro e w1 ⟨rfl, rfl⟩
      go_wp2
      go_ret
      refine ⟨?_, bl_alloc (bl_a _) _⟩
      rw [ec.out, ← sideI_lt]
      rfl
    by_cases k3 : k = 3
    · subst k3
      obtain rfl := termOk_num e1
      obtain rfl := termOk_num e2
      have ec : Hid (cmp3 (cmpI 3 3) (cmpB [] []) (cmpN n s n' s') = cmpN n s n' s') := by
        show _ = _
        rw [c0, cmpB_nil]
        rfl
      clear c0 e1 e2 hB hB'
      go_enter Tryz.func63, Tryz.ntmps63
      go_wp2_with fail
      refine (l1compareNum_any 3 n 3 n' s s' a a' len cap len' cap' _ hs h1 h2 hs' h1' h2').mono ?_
      rintro e w1 ⟨rfl, hb1⟩
      go_wp2
      go_ret
      exact ⟨by rw [ec.out]; rfl, bl_trans (bl_alloc (bl_a _) _) hb1⟩
    · obtain ⟨rfl, g1⟩ := termOk_str e1 k1 k3
      obtain ⟨rfl, g2⟩ := termOk_str e2 k1 k3
      obtain rfl : s = 0 := by omega
      obtain rfl : s' = 0 := by omega
      have ec : Hid (cmp3 (cmpI k k) (cmpB bs bs') (cmpN 0 (0 : Nat) 0 (0 : Nat)) = cmpB bs bs') := by
        show _ = _
        rw [c0, cmpN_blank, cmpI_eq rfl]
        unfold cmp3 orI
        simp
        intro h; exact h.symm
      have v1 : ∀ o1 o2, (convert 22 9 (.slice a len cap)).run Tryz.prog ((w.alloc o1).alloc o2) = .ok (.string (strOfNums bs)) ((w.alloc o1).alloc o2) := fun o1 o2 => (hB.below (bl_alloc (bl_a _) _)).str
      have v2 : ∀ o1 o2, (convert 22 9 (.slice a' len' cap')).run Tryz.prog ((w.alloc o1).alloc o2) = .ok (.string (strOfNums bs')) ((w.alloc o1).alloc o2) := fun o1 o2 => (hB'.below (bl_alloc (bl_a _) _)).str
      have g1' : (k == 1) = false := by simp; omega
      have g3' : (k == 3) = false := by simp; omega
      clear c0 e1 e2 hB hB' g1 g2 k1 k3
      go_enter Tryz.func63, Tryz.ntmps63
      go_wp2_with fail
      refine (side_any _ _ _).mono ?_
      rintro e w1 ⟨rfl, rfl⟩
      go_wp2
      go_ret
      refine ⟨?_, bl_alloc (bl_a _) _⟩
      rw [ec.out, ← sideI_str]
      rfl
  · have ec : Hid (cmp3 (cmpI k k') (cmpB bs bs') (cmpN n s n' s') = cmpI k k') := by
      show orI _ _ = _
      rw [orI, if_neg (cmpI_ne hk)]
    have HK : Hid (k ≠ k') := hk
    have hk' : (k != k') = true := by simp [hk]
    clear hk e1 e2 hB hB'
    go_enter Tryz.func63, Tryz.ntmps63
    go_wp2_with fail
    refine (side_any _ _ _).mono ?_
    rintro e w1 ⟨rfl, rfl⟩
    go_wp2
    go_ret
    refine ⟨?_, bl_alloc (bl_a _) _⟩
    rw [ec.out, ← sideI_ne _ _ HK.out]
    rfl

end Go.Proofs.YtiodiooaaojbhaaGreatDoor

/- GraF -/
namespace Go.Proofs.YtiodiooaaojbhaaGreatDoor
open Go.RowKit Go.Deep

/-- One operation of a region that draws its order, taken first; its slot is d. -/
theorem take_at {P : Program} {md : Region.Mode} {ops : Array Oper} {Q : Exit → Act → World → Prop} {S : World → Prop} {i : Nat} {oi : Oper} {v : Value} {fuel : Nat} {listed : Array Bool} {a : Act} {w : World} (d : Nat) (hi : ops[i]? = some oi) (hd : oi.dst = some d)
    (hs : Region.noSelect ops = true) (hf : Region.free md ops listed i = true) (hr : (Region.ready md ops listed).contains i = true)
    (hQ : ∀ c a w, Q (.panic c) (a.put (some d) v) w → Q (.panic c) a w) (hy : YieldsIf P ops S oi v a) (hS : S w)
    (h : wpAnyH P md ops Q S fuel (listed.setIfInBounds i true) (a.put (some d) v) w) : wpAnyH P md ops Q S (fuel + 1) listed a w :=
  wpAnyH_take hi hs hf hr (by rw [hd]; exact hQ) hy hS (by rw [hd]; exact h)

theorem cmpOr3_any (x y z : Int) (b : Nat) (w : World) (h0 : w.cell? ⟨b, 0, none⟩ = some (.int .i64 x)) (h1 : w.cell? ⟨b, 1, none⟩ = some (.int .i64 y)) (h2 : w.cell? ⟨b, 2, none⟩ = some (.int .i64 z)) :
    Calls Tryz.prog 27 #[.slice (some ⟨b, 0, none⟩) 3 3] w fun e w' => e = .returned (.int .i64 (cmp3 x y z)) ∧ w' = w := by
  by_cases hx : x = 0
  · subst hx
    by_cases hy : y = 0
    · subst hy
      by_cases hz : z = 0
      · subst hz
        have e0 : cmp3 0 0 0 = 0 := rfl
        rw [e0]
        go_enter Tryz.func27, Tryz.ntmps27
        go_wp2
        refine wp_loop_rounds 4 ?_
        rw [rounds_succ]
        go_wp2
        rw [rounds_succ]
        go_wp2
        rw [rounds_succ]
        go_wp2
        rw [rounds_succ]
        go_wp2
        go_ret
        exact ⟨rfl, rfl⟩
      · have hz' : (z != 0) = true := by simp; omega
        have e0 : cmp3 0 0 z = z := rfl
        rw [e0]
        clear hz
        go_enter Tryz.func27, Tryz.ntmps27
        go_wp2
        refine wp_loop_rounds 3 ?_
        rw [rounds_succ]
        go_wp2
        rw [rounds_succ]
        go_wp2
        rw [rounds_succ]
        go_wp2
        go_ret
        exact ⟨rfl, rfl⟩
    · have hy' : (y != 0) = true := by simp; omega
      have e0 : cmp3 0 y z = y := by unfold cmp3 orI; simp [hy]
      rw [e0]
      clear hy
      go_enter Tryz.func27, Tryz.ntmps27
      go_wp2
      refine wp_loop_rounds 2 ?_
      rw [rounds_succ]
      go_wp2
      rw [rounds_succ]
      go_wp2
      go_ret
      exact ⟨rfl, rfl⟩
  · have hx' : (x != 0) = true := by simp; omega
    have e0 : cmp3 x y z = x := by unfold cmp3 orI; simp [hx]
    rw [e0]
    clear hx
    go_enter Tryz.func27, Tryz.ntmps27
    go_wp2
    refine wp_loop_rounds 1 ?_
    rw [rounds_succ]
    go_wp2
    go_ret
    exact ⟨rfl, rfl⟩

/-- Two terms that may be, compared. -/
def tcmp (t t' : Tm) (b b' : List Int) : Int := cmp3 (cmpI t.k t'.k) (cmpB b b') (cmpN t.n t.s.toNat t'.n t'.s.toNat)
/-- Two triples that may be. -/
def tcmp3 (t u v t' u' v' : Tm) (bt bu bv bt' bu' bv' : List Int) : Int := cmp3 (tcmp t t' bt bt') (tcmp u u' bu bu') (tcmp v v' bv bv')
theorem tripleOk_out {t u v : Tm} {bt bu bv : List Int} (h : tripleOk t u v bt bu bv = true) : termOk t.k bt t.n t.s = true ∧ termOk u.k bu u.n u.s = true ∧ termOk v.k bv v.n v.s = true := by
  unfold tripleOk at h
  simp only [Bool.and_eq_true] at h
  exact ⟨h.1.1.1.1, h.1.1.1.2, h.1.1.2⟩

theorem l1compare_tm (t t' : Tm) (b b' : List Int) (w : World) (f : t.fits) (f' : t'.fits) (o : termOk t.k b t.n t.s = true) (o' : termOk t'.k b' t'.n t'.s = true) (h : Bs w t.a t.len b) (h' : Bs w t'.a t'.len b') :
    Calls Tryz.prog 63 #[.agg #[.int .i64 t.k, .slice t.a t.len t.cap, .int .i64 t.n, .int .i64 t.s], .agg #[.int .i64 t'.k, .slice t'.a t'.len t'.cap, .int .i64 t'.n, .int .i64 t'.s]] w fun e w' => e = .returned (.int .i64 (tcmp t t' b b')) ∧ Below w.heap.size w w' := by
  have s1 := termOk_scale o
  have s2 := termOk_scale o'
  unfold tcmp
  obtain ⟨m, hm⟩ : ∃ m : Nat, t.s = m := ⟨t.s.toNat, by omega⟩
  obtain ⟨m', hm'⟩ : ∃ m : Nat, t'.s = m := ⟨t'.s.toNat, by omega⟩
  have := l1compare_any t.k t.n t'.k t'.n m m' t.a t'.a t.len t.cap t'.len t'.cap b b' w h h' (by omega) f.1 f.2.1 (by omega) f'.1 f'.2.1 (by rw [← hm]; exact o) (by rw [← hm']; exact o')
  rw [hm, hm']
  simpa using this
theorem l2compare_any (t u v t' u' v' : Tm) (bt bu bv bt' bu' bv' : List Int) (w : World) (ft : t.fits) (fu : u.fits) (fv : v.fits) (ft' : t'.fits) (fu' : u'.fits) (fv' : v'.fits)
    (o : tripleOk t u v bt bu bv = true) (o' : tripleOk t' u' v' bt' bu' bv' = true) (hT : Bs w t.a t.len bt) (hU : Bs w u.a u.len bu) (hV : Bs w v.a v.len bv) (hT' : Bs w t'.a t'.len bt') (hU' : Bs w u'.a u'.len bu') (hV' : Bs w v'.a v'.len bv') :
    Calls Tryz.prog 33 #[.agg #[.int .i64 t.k, .slice t.a t.len t.cap, .int .i64 t.n, .int .i64 t.s, .int .i64 u.k, .slice u.a u.len u.cap, .int .i64 u.n, .int .i64 u.s, .int .i64 v.k, .slice v.a v.len v.cap, .int .i64 v.n, .int .i64 v.s], .agg #[.int .i64 t'.k, .slice t'.a t'.len t'.cap, .int .i64 t'.n, .int .i64 t'.s, .int .i64 u'.k, .slice u'.a u'.len u'.cap, .int .i64 u'.n, .int .i64 u'.s, .int .i64 v'.k, .slice v'.a v'.len v'.cap, .int .i64 v'.n, .int .i64 v'.s]] w fun e w' => e = .returned (.int .i64 (tcmp3 t u v t' u' v' bt bu bv bt' bu' bv')) ∧ Below w.heap.size w w' := by
  obtain ⟨o1, o2, o3⟩ := tripleOk_out o
  obtain ⟨o1', o2', o3'⟩ := tripleOk_out o'
  have C1 := fun w h h' => l1compare_tm t t' bt bt' w ft ft' o1 o1' h h'
  have C2 := fun w h h' => l1compare_tm u u' bu bu' w fu fu' o2 o2' h h'
  have C3 := fun w h h' => l1compare_tm v v' bv bv' w fv fv' o3 o3' h h'
  clear o o' o1 o2 o3 o1' o2' o3' ft fu fv ft' fu' fv'
  unfold tcmp3
  generalize tcmp t t' bt bt' = c1 at *
  generalize tcmp u u' bu bu' = c2 at *
  generalize tcmp v v' bv bv' = c3 at *
  by_cases e1 : c1 = 0
  · subst e1
    by_cases e2 : c2 = 0
    · subst e2
      have e0 : cmp3 0 0 c3 = c3 := rfl
      rw [e0]
      go_enter Tryz.func33, Tryz.ntmps33
      go_wp2_with fail
      refine (C1 _ (hT.below (bl_alloc (bl_a _) _)) (hT'.below (bl_alloc (bl_a _) _))).mono ?_
      rintro e w1 ⟨rfl, hb1⟩
      have hA := (Own12.at w w.heap.size t u v 45 rfl).1.below (bl_trans (bl_a _) hb1)
      have hX := (Own12.at (w.alloc _) (w.heap.size + 1) t' u' v' 45 (by simp)).1.below hb1
      have hw := bl_trans (bl_alloc (bl_a _) _) hb1
      clear hb1
      obtain ⟨_, ⟨x0, x1, x2, x3⟩, ⟨x4, x5, x6, x7⟩, ⟨x8, x9, xa, xb⟩⟩ := id hA
      obtain ⟨_, ⟨y0, y1, y2, y3⟩, ⟨y4, y5, y6, y7⟩, ⟨y8, y9, ya, yb⟩⟩ := id hX
      go_wp2_with fail
      refine (C2 _ (hU.below hw) (hU'.below hw)).mono ?_
      rintro e w2 ⟨rfl, hb2⟩
      replace hA := hA.below hb2
      replace hX := hX.below hb2
      replace hw := bl_trans hw hb2
      clear hb2
      clear x0 x1 x2 x3 x4 x5 x6 x7 x8 x9 xa xb
      clear y0 y1 y2 y3 y4 y5 y6 y7 y8 y9 ya yb
      obtain ⟨_, ⟨x0, x1, x2, x3⟩, ⟨x4, x5, x6, x7⟩, ⟨x8, x9, xa, xb⟩⟩ := id hA
      obtain ⟨_, ⟨y0, y1, y2, y3⟩, ⟨y4, y5, y6, y7⟩, ⟨y8, y9, ya, yb⟩⟩ := id hX
      go_wp2_with fail
      refine (C3 _ (hV.below hw) (hV'.below hw)).mono ?_
      rintro e w3 ⟨rfl, hb3⟩
      replace hw := bl_trans hw hb3
      go_wp2
      go_ret
      exact ⟨rfl, hw⟩
    · have e0 : cmp3 0 c2 c3 = c2 := by unfold cmp3 orI; simp [e2]
      have e2' : (c2 == 0) = false := by simp [e2]
      rw [e0]
      clear e2
      go_enter Tryz.func33, Tryz.ntmps33
      go_wp2_with fail
      refine (C1 _ (hT.below (bl_alloc (bl_a _) _)) (hT'.below (bl_alloc (bl_a _) _))).mono ?_
      rintro e w1 ⟨rfl, hb1⟩
      have hA := (Own12.at w w.heap.size t u v 45 rfl).1.below (bl_trans (bl_a _) hb1)
      have hX := (Own12.at (w.alloc _) (w.heap.size + 1) t' u' v' 45 (by simp)).1.below hb1
      have hw := bl_trans (bl_alloc (bl_a _) _) hb1
      clear hb1
      obtain ⟨_, ⟨x0, x1, x2, x3⟩, ⟨x4, x5, x6, x7⟩, ⟨x8, x9, xa, xb⟩⟩ := id hA
      obtain ⟨_, ⟨y0, y1, y2, y3⟩, ⟨y4, y5, y6, y7⟩, ⟨y8, y9, ya, yb⟩⟩ := id hX
      go_wp2_with fail
      refine (C2 _ (hU.below hw) (hU'.below hw)).mono ?_
      rintro e w2 ⟨rfl, hb2⟩
      replace hA := hA.below hb2
      replace hX := hX.below hb2
      replace hw := bl_trans hw hb2
      clear hb2
      clear x0 x1 x2 x3 x4 x5 x6 x7 x8 x9 xa xb
      clear y0 y1 y2 y3 y4 y5 y6 y7 y8 y9 ya yb
      obtain ⟨_, ⟨x0, x1, x2, x3⟩, ⟨x4, x5, x6, x7⟩, ⟨x8, x9, xa, xb⟩⟩ := id hA
      obtain ⟨_, ⟨y0, y1, y2, y3⟩, ⟨y4, y5, y6, y7⟩, ⟨y8, y9, ya, yb⟩⟩ := id hX
      go_wp2
      go_ret
      exact ⟨rfl, hw⟩
  · have e0 : cmp3 c1 c2 c3 = c1 := by unfold cmp3 orI; simp [e1]
    have e1' : (c1 == 0) = false := by simp [e1]
    rw [e0]
    clear e1
    go_enter Tryz.func33, Tryz.ntmps33
    go_wp2_with fail
    refine (C1 _ (hT.below (bl_alloc (bl_a _) _)) (hT'.below (bl_alloc (bl_a _) _))).mono ?_
    rintro e w1 ⟨rfl, hb1⟩
    have hA := (Own12.at w w.heap.size t u v 45 rfl).1.below (bl_trans (bl_a _) hb1)
    have hX := (Own12.at (w.alloc _) (w.heap.size + 1) t' u' v' 45 (by simp)).1.below hb1
    have hw := bl_trans (bl_alloc (bl_a _) _) hb1
    clear hb1
    obtain ⟨_, ⟨x0, x1, x2, x3⟩, ⟨x4, x5, x6, x7⟩, ⟨x8, x9, xa, xb⟩⟩ := id hA
    obtain ⟨_, ⟨y0, y1, y2, y3⟩, ⟨y4, y5, y6, y7⟩, ⟨y8, y9, ya, yb⟩⟩ := id hX
    go_wp2
    go_ret
    exact ⟨rfl, hw⟩

end Go.Proofs.YtiodiooaaojbhaaGreatDoor

/- ReR -/
namespace Go.Proofs.YtiodiooaaojbhaaGreatDoor
open Go.RowKit Go.Deep
set_option maxRecDepth 100000

theorem l1Below_big (g : Nat) (a : Option Addr) (len cap n : Nat) (w : World) (hlen : len ≤ 9223372036854775807) (hC : Cur w g a len cap) (h1 : 256 < n) (h2 : n ≤ 1000000) :
    Calls Tryz.prog 58 #[.pointer (some ⟨g, 0, none⟩), .int .i64 n] w fun e w' => Drawn g a len cap w n e w' := by
  have B := fun w h => l1Byte_any g a len cap w hlen h
  have HC : Hid (Cur w g a len cap) := hC
  clear hC
  go_enter Tryz.func58, Tryz.ntmps58
  go_wp2_with fail
  refine (B _ HC.out).mono ?_
  rintro e w1 ⟨x, rfl, x0, x1, hP1, hC1⟩
  have HP1 : Hid (Past g w w1) := hP1
  have HC1 : Hid (Cur w1 g a len cap) := hC1
  clear HC hP1 hC1
  go_wp2_with fail
  refine (B _ HC1.out).mono ?_
  rintro e w2 ⟨y, rfl, y0, y1, hP2, hC2⟩
  have HP2 : Hid (Past g w w2) := HP1.out.trans hP2
  have HC2 : Hid (Cur w2 g a len cap) := hC2
  clear HP1 HC1 hP2 hC2
  go_wp2_with fail
  refine (B _ HC2.out).mono ?_
  rintro e w3 ⟨z, rfl, z0, z1, hP3, hC3⟩
  have HP3 : Hid (Past g w w3) := HP2.out.trans hP3
  have HC3 : Hid (Cur w3 g a len cap) := hC3
  clear HP2 HC2 hP3 hC3
  go_wp2_with fail
  refine (B _ HC3.out).mono ?_
  rintro e w4 ⟨u, rfl, u0, u1, hP4, hC4⟩
  have HP4 : Hid (Past g w w4) := HP3.out.trans hP4
  have HC4 : Hid (Cur w4 g a len cap) := hC4
  clear HP3 HC3 hP4 hC4 B
  obtain ⟨m, hm⟩ : ∃ m : Nat, (m : Int) = x * 16777216 + y * 65536 + z * 256 + u := ⟨(x * 16777216 + y * 65536 + z * 256 + u).toNat, by omega⟩
  go_wp2
  go_ret
  refine ⟨m % n, ?_, Nat.mod_lt _ (by omega), HP4.out, HC4.out⟩
  rw [← hm, Int.natCast_emod]
  rfl
theorem l1Below_all (g : Nat) (a : Option Addr) (len cap n : Nat) (w : World) (hlen : len ≤ 9223372036854775807) (hC : Cur w g a len cap) (h1 : 1 ≤ n) (h2 : n ≤ 1000000) :
    Calls Tryz.prog 58 #[.pointer (some ⟨g, 0, none⟩), .int .i64 n] w fun e w' => Drawn g a len cap w n e w' := by
  by_cases h : n ≤ 256
  · exact l1Below_any g a len cap n w hlen hC h1 h
  · exact l1Below_big g a len cap n w hlen hC (by omega) h2
/-- What l2spoil answers of a text of n bytes. -/
def SpoilRes (g : Nat) (a : Option Addr) (len cap : Nat) (n : Nat) (w : World) (e : Ending) (w' : World) : Prop :=
  ∃ ar cr bs, e = .returned (.slice ar bs.length cr) ∧ bs.length ≤ n + 4 ∧ Tz w' w.heap.size ar bs.length cr bs ∧ Past g w w' ∧ Cur w' g a len cap
end Go.Proofs.YtiodiooaaojbhaaGreatDoor

/- DrwC -/
namespace Go.Proofs.YtiodiooaaojbhaaGreatDoor
open Go.RowKit Go.Deep

theorem Past.set_new {g : Nat} {w w' : World} (h : Past g w w') {p : Addr} (hp : w.heap.size ≤ p.block) (v : Value) : Past g w (w'.setCell p v) :=
  ⟨h.os, h.tape, h.output, by simpa using h.size, fun b hb hn => (Below.heap_setCell _ _ _ _ (by omega)).trans (h.block b hb hn)⟩
theorem Cur.glue {w w3 w' : World} {g : Nat} {a : Option Addr} {len cap : Nat} (h : Cur w g a len cap) (h3 : Cur w3 g a len cap) (hP : Past g w w') (hg : w'.heap[g]? = w3.heap[g]?) : Cur w' g a len cap := by
  have e : ∀ i, w'.cell? ⟨g, i, none⟩ = w3.cell? ⟨g, i, none⟩ := fun i => World.cell?_of_block (w := w3) (a := ⟨g, i, none⟩) hg
  have f : ∀ i, w'.frozen? ⟨g, i, none⟩ = w3.frozen? ⟨g, i, none⟩ := fun i => World.frozen?_of_block (w := w3) (a := ⟨g, i, none⟩) hg
  refine ⟨Nat.lt_of_lt_of_le h.lt hP.size, (e 0).trans h3.c0, ?_, ?_, (f 1).trans h3.f1, (f 2).trans h3.f2, ?_⟩
  · rw [e 1]; exact h3.c1
  · rw [e 2]; exact h3.c2
  · rcases h.code with hc | ⟨b, off, ha, hlt, hn, hc⟩
    · exact .inl hc
    · refine .inr ⟨b, off, ha, Nat.lt_of_lt_of_le hlt hP.size, hn, fun i hi => ?_⟩
      rw [hP.cell (p := ⟨b, off + i, none⟩) hlt hn]
      exact hc i hi
theorem numP_bounds (q : Int) (z : Nat) : (-9223372036854775808 ≤ tN (numP q z) ∧ tN (numP q z) ≤ 9223372036854775807) ∧ (-9223372036854775808 ≤ tS (numP q z) ∧ tS (numP q z) ≤ 9223372036854775807) := by
  unfold tN tS
  by_cases h : numOk (numP q z).1 (numP q z).2 = true
  · rw [if_pos h, if_pos h]
    simp only [numOk, Bool.and_eq_true, decide_eq_true_eq] at h
    omega
  · rw [if_neg h, if_neg h]
    omega
theorem numP_b6 (q : Int) (z : Nat) : 0 ≤ tS (numP q z) ∧ tS (numP q z) ≤ 6 := by
  unfold tS
  by_cases h : numOk (numP q z).1 (numP q z).2 = true
  · rw [if_pos h]
    simp only [numOk, Bool.and_eq_true, decide_eq_true_eq] at h
    omega
  · rw [if_neg h]
    omega
end Go.Proofs.YtiodiooaaojbhaaGreatDoor
