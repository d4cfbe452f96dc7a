/-
  The walk of BytesTakes.
-/
import Derived.Test.YtiebaiofpihoiaaRefTape2
import Derived.Test.YtiebaiofpihoiaaByW4
import Derived.Test.YtiebaiofpihoiaaByW6
import Derived.Test.YtiebaiofpihoiaaElems
namespace Go.Proofs.Ytiebaiofpihoiaa
open Go.ChangeShapes Go.WideShapes Go.ChangeAt Go.RowKit Go.Deep
attribute [local go_sem] Gives GivesE
theorem cells_take : Try.prog.cellsOf 52 = 2 := by kernel_rfl
theorem cells_int' : Try.prog.cellsOf 3 = 1 := by kernel_rfl
def TkV (cs : List Value) : Prop := ∃ a b : Int, cs = [.int .i64 a, .int .i64 b] ∧ -9223372036854775808 ≤ a ∧ a ≤ 9223372036854775807 ∧ -9223372036854775808 ≤ b ∧ b ≤ 9223372036854775807
section
variable {H : Type} {enc : TypeId × Value → H} {w : World} {base : Nat} {spare : Nat → Bool} {held : Bool}
theorem trod_take (fuel : Nat) (cs : List Value) (x : DataW H × List MemPlace) (h : DataW.trod enc Try.prog w base spare held fuel 52 cs = some x) (hl : cs.length = 2) : TkV cs := by
  obtain ⟨y0, y1, m, _, _, h0, h1⟩ := trod_struct2 Try.underlying52 h
  match cs, hl with
  | [c0, c1], _ =>
    have h0' : DataW.trod enc Try.prog w base spare held m 3 [c0] = some y0 := by simpa [cells_int'] using h0
    have h1' : DataW.trod enc Try.prog w base spare held m 3 [c1] = some y1 := by simpa [cells_int'] using h1
    obtain ⟨a, e0, _, w0⟩ := DataW.trod_int Try.underlying3 h0'
    obtain ⟨b, e1, _, w1⟩ := DataW.trod_int Try.underlying3 h1'
    simp only [List.cons.injEq, and_true] at e0 e1
    subst e0 e1
    exact ⟨a, b, rfl, (i64_wf' w0).1, (i64_wf' w0).2, (i64_wf' w1).1, (i64_wf' w1).2⟩
end
/-- The first k cells of a slice's row are bytes. -/
def CurA (w : World) (B : Nat) (A : Option Addr) (k : Nat) : Prop := 0 < k → ∃ g, A = some ⟨g, 0, none⟩ ∧ B ≤ g ∧ g < w.heap.size ∧ Cur w g k
theorem Own.curA {w : World} {B k c : Nat} {A : Option Addr} {l : List Nat} (h : Own 5 .u8 w B (.slice A k c) l) (hl : l.length = k) (h6 : B256 l) : CurA w B A k := fun hk => by
  obtain ⟨g, cap, e, hB, hg, _⟩ := h.at (by omega)
  simp only [Value.slice.injEq] at e
  obtain ⟨rfl, _, rfl⟩ := e
  exact ⟨g, rfl, hB, hg, h.cur (by omega) h6⟩
/-- Both tapes: which of the two has gone on. -/
def Both (w0 : World) (B gp lo gr hi : Nat) (st st1 : BytM.Tp) (x y : Nat) (d : Nat → Bool) (w : World) : Prop :=
  Below B w0 w ∧ Tap w gp lo (if d x then st1 else st) ∧ RTap w gr hi (if d y then st1 else st)
theorem Both.irr {w0 w : World} {B gp lo gr hi x y : Nat} {st st1 : BytM.Tp} {d d' : Nat → Bool} (hx : d x = d' x) (hy : d y = d' y) (h : Both w0 B gp lo gr hi st st1 x y d w) : Both w0 B gp lo gr hi st st1 x y d' w := by
  unfold Both at *
  rw [← hx, ← hy]
  exact h
/-- What the world holds of bytes that a call made. -/
def tD (x y WB : Nat) (L : List Nat) (j : Nat) (vs : Nat → Value) (w : World) : Prop := (j = x ∨ j = y) → ∃ A c hi, vs j = .slice A L.length c ∧ hi ≤ w.heap.size ∧ Rd w WB hi A L L.length c
def tK (WB : Nat) (w w' : World) : Prop := ∃ r, w.grownBy w' r ∧ ∀ k, r = some k → k < WB
theorem tD_keep {x y WB : Nat} {L : List Nat} {j : Nat} {vs : Nat → Value} {w w' : World} (h : tD x y WB L j vs w) (hk : tK WB w w') : tD x y WB L j vs w' := fun e => by
  obtain ⟨A, c, hi, h1, h2, h3⟩ := h e
  obtain ⟨r, hg, hr⟩ := hk
  exact ⟨A, c, hi, h1, Nat.le_trans h2 hg.size, h3.gr hg fun k e => .inl (hr k e)⟩
theorem tD_loc {x y WB : Nat} {L : List Nat} {i j : Nat} {vs : Nat → Value} {v : Value} {w : World} (hji : j ≠ i) (h : tD x y WB L j vs w) : tD x y WB L j (updV vs i v) w := by
  unfold tD at h ⊢
  rw [updV_ne _ _ hji]
  exact h
theorem tD_none {x y WB : Nat} {L : List Nat} {j : Nat} {vs : Nat → Value} {w : World} (h1 : j ≠ x) (h2 : j ≠ y) : tD x y WB L j vs w := fun e => by rcases e with e | e <;> exact absurd e (by assumption)
theorem tK_refl (WB : Nat) (w : World) : tK WB w w := ⟨none, grown_refl _ _, fun k e => by cases e⟩
theorem Rd.lower {w : World} {lo lo' hi : Nat} {A : Option Addr} {l : List Nat} {n cp : Nat} (h : Rd w lo hi A l n cp) (hh : lo' ≤ lo) : Rd w lo' hi A l n cp :=
  ⟨h.len, h.cap, h.max, h.b256, h.none, h.byt.lower hh⟩
def Sml (st : BytM.Tp) : Prop := ∀ s, st = some s → s.length ≤ 5000
theorem Sml.cut {st : BytM.Tp} (h : Sml st) (n : Int) : Sml (BytM.cutS st n) := by
  intro s e
  unfold BytM.cutS at e
  split at e
  · cases e
  · split at e
    · cases e
      have := h _ rfl
      rw [List.length_drop]; omega
    · cases e
theorem Sml.none : Sml none := fun s e => by cases e
theorem Sml.num {st : BytM.Tp} (h : Sml st) (n : Int) : Sml (BytM.numS st n) := by
  unfold BytM.numS
  split
  · exact h.cut n
  · exact Sml.none
theorem Sml.txt {st : BytM.Tp} (h : Sml st) (n : Int) : Sml (BytM.txtS st n) := by
  unfold BytM.txtS
  split
  · exact Sml.none
  · exact (h.num 2).cut _
theorem upB_ne {d : Nat → Bool} {k j : Nat} (h : j ≠ k) : upB d k j = d j := if_neg h
theorem upB_self (d : Nat → Bool) (k : Nat) : upB d k k = true := if_pos rfl
theorem Both.first {w0 w w' : World} {B gp lo gr hi x y : Nat} {st st1 : BytM.Tp} {d : Nat → Bool} (h : Both w0 B gp lo gr hi st st1 x y d w) (hxy : y ≠ x) (ht : Tap w' gp lo st1) (hg : w.grownBy w' (some gp)) (hB : B ≤ gp) (hs : B ≤ w0.heap.size) (hh : hi ≤ gp) (hne : gp ≠ gr) : Both w0 B gp lo gr hi st st1 x y (upB d x) w' := by
  refine ⟨below_by h.1 hg hB hs, ?_, ?_⟩
  · rw [upB_self]; exact ht
  · rw [upB_ne hxy]; exact h.2.2.gr hg fun k e => by cases e; exact ⟨hh, hne⟩
theorem Both.second {w0 w w' : World} {B gp lo gr hi x y : Nat} {st st1 : BytM.Tp} {d : Nat → Bool} (h : Both w0 B gp lo gr hi st st1 x y d w) (hxy : x ≠ y) (ht : RTap w' gr hi st1) (hg : w.grownBy w' (some gr)) (hB : B ≤ gr) (hs : B ≤ w0.heap.size) (hne : gp < gr) : Both w0 B gp lo gr hi st st1 x y (upB d y) w' := by
  refine ⟨below_by h.1 hg hB hs, ?_, ?_⟩
  · rw [upB_ne hxy]; exact h.2.1.gr hg fun k e => by cases e; exact .inr hne
  · rw [upB_self]; exact ht
theorem Both.start {w0 : World} {B gp lo gr hi x y : Nat} {st st1 : BytM.Tp} (ht : Tap w0 gp lo st) (hr : RTap w0 gr hi st) : Both w0 B gp lo gr hi st st1 x y (fun _ => false) w0.drew :=
  ⟨(Below.refl _ _).drew, ht.below (Below.refl w0.heap.size w0).drew ht.lt, hr.below (Below.refl w0.heap.size w0).drew⟩
theorem Both.old {w0 w : World} {B gp lo gr hi x y : Nat} {st st1 : BytM.Tp} {d : Nat → Bool} (h : Both w0 B gp lo gr hi st st1 x y d w) (hd : d x = false) : Tap w gp lo st := by
  have := h.2.1
  rw [hd] at this
  exact this
theorem Both.old' {w0 w : World} {B gp lo gr hi x y : Nat} {st st1 : BytM.Tp} {d : Nat → Bool} (h : Both w0 B gp lo gr hi st st1 x y d w) (hd : d y = false) : RTap w gr hi st := by
  have := h.2.2
  rw [hd] at this
  exact this
theorem Both.done {w0 w : World} {B gp lo gr hi x y : Nat} {st st1 : BytM.Tp} {d : Nat → Bool} (h : Both w0 B gp lo gr hi st st1 x y d w) (hx : d x = true) (hy : d y = true) : Below B w0 w ∧ Tap w gp lo st1 ∧ RTap w gr hi st1 := by
  obtain ⟨h1, h2, h3⟩ := h
  rw [hx] at h2
  rw [hy] at h3
  exact ⟨h1, h2, h3⟩
set_option maxHeartbeats 1600000 in
set_option maxRecDepth 100000 in
theorem takes_law (A : Option Addr) (l : List Nat) (n cap : Nat) (LA : Option Addr) (xs : List (List Value)) (ln lcap : Nat) (w : World) (hA : Arg w A l n cap) (hl : xs.length = ln) (hln : ln ≤ lcap) (hlc : lcap ≤ maxLen) (hx : ∀ cs ∈ xs, TkV cs) (hE : Elems 2 w w.heap.size LA xs) :
    Calls Try.prog 5 #[.slice A n cap, .slice LA ln lcap] w fun e w' => e = .returned (.bool true) ∧ Below w.heap.size w w' := by
  have C := hid fun w => lcut_any A n cap hA.cap hA.max w
  have a5 := hA.cutN 5000
  have hk : min n 5000 ≤ 5000 := by omega
  generalize l.take 5000 = l5 at *
  generalize min n 5000 = k at *
  unfold maxLen at hlc
  have hln6 : ln ≤ 9223372036854775807 := by omega
  have H5 := hid a5
  have HL := hid hl
  have HX := hid hx
  have HE := hid hE
  clear hA a5 hl hx hE hlc hln
  go_enter Try.func5, Try.ntmps5
  go_wp2_with fail
  refine (C.out w).mono ?_
  rintro e w' ⟨rfl, rfl⟩
  clear C
  go_upto_region 2 with fail
  have OE : Hid (Own 5 .u8 (w.alloc (.cells #[] 5)) w.heap.size (.slice (some ⟨w.heap.size, 0, none⟩) 0 0) []) := hid (Own.empty w (Nat.le_refl _))
  have BE := hid ((Below.refl w.heap.size w).alloc (Nat.le_refl _) (.cells #[] 5))
  have AE := hid (H5.out.on BE.out)
  go_upto_region 3 with (at_builtin; (with_reducible apply wappN_any eltB); rfl; rfl; exact AE.out.none; exact OE.out; exact AE.out.byt.nums; exact AE.out.len; (rw [List.length_nil]; omega); (simp); intro v2 w2 o2 g2; rw [List.nil_append] at o2; obtain ⟨Ac, cc, ec, ac⟩ := o2.arg H5.out.b256; rw [H5.out.len] at ec ac; subst ec)
  have B2 := hid (below_grown BE.out g2 OE.out (Nat.le_refl _) (Nat.le_refl _))
  have CA := hid (o2.curA H5.out.len H5.out.b256)
  have AC := hid ac
  clear o2 ac g2 AE OE BE
  go_wp2_with fail
  refine (open_any Ac l5 k cc (by omega) w2 AC.out).mono ?_
  rintro e w3 ⟨gp, rfl, t3, b3⟩
  have T3 := hid t3
  have B3 := hid (B2.out.trans (b3.mono B2.out.size))
  have CA3 := hid (show CurA w3 w.heap.size Ac k from fun h => by
    obtain ⟨g, e1, e2, e3, e4⟩ := CA.out h
    exact ⟨g, e1, e2, Nat.lt_of_lt_of_le e3 b3.size, e4.below b3 e3⟩)
  have CLT := hid (show ∀ g, 0 < k → Ac = some ⟨g, 0, none⟩ → g < w2.heap.size from fun g h e => by
    obtain ⟨g', e1, _, e3, _⟩ := CA.out h
    rw [e] at e1
    cases e1
    exact e3)
  have CGE := hid (show ∀ g, 0 < k → Ac = some ⟨g, 0, none⟩ → w.heap.size ≤ g from fun g h e => by
    obtain ⟨g', e1, e2, _, _⟩ := CA.out h
    rw [e] at e1
    cases e1
    exact e2)
  have LO := hid t3.le
  have HI := hid B2.out.size
  generalize hlo : w2.heap.size = lo at *
  clear t3 b3 AC CA hlo B2
  go_upto_region 5 with fail
  generalize hw4 : World.alloc w3 _ = w4
  obtain ⟨gr, hgr⟩ : ∃ g, g = w3.heap.size := ⟨_, rfl⟩
  have b4 : Blk w4 gr 50 (rt A k cap 0 false) := by rw [← hw4, hgr]; exact Blk.top rfl rfl
  have bb4 : Below w3.heap.size w3 w4 := by rw [← hw4]; exact (Below.refl _ _).alloc (Nat.le_refl _) _
  have hgp : gp < gr := by rw [hgr]; exact T3.out.lt
  have B4 := hid (B3.out.trans (bb4.mono B3.out.size))
  have T4 := hid (T3.out.below bb4 T3.out.lt)
  have R4 : Hid (RTap w4 gr w.heap.size (some l5)) := hid ⟨by rw [hgr]; exact B3.out.size, A, k, cap, l5, 0, b4, Nat.zero_le _, by omega, ⟨H5.out.len, H5.out.cap, H5.out.max, H5.out.b256, H5.out.none, fun hn => by
    obtain ⟨b, o, e, h1, h2⟩ := H5.out.byt hn
    subst e
    exact ⟨b, o, rfl, Nat.zero_le _, h1, fun i hi => (B4.out.cell (p := ⟨b, o + i, none⟩) h1).trans (h2 i hi)⟩⟩, fun s e => by cases e; rfl⟩
  have C4 := hid (show CurA w4 w.heap.size Ac k from fun h => by
    obtain ⟨g, e1, e2, e3, e4⟩ := CA3.out h
    exact ⟨g, e1, e2, Nat.lt_of_lt_of_le e3 bb4.size, e4.below bb4 e3⟩)
  rw [← hgr]
  have HGP := hid hgp
  clear hw4 b4 bb4 hgr T3 B3 CA3 hgp
  go_wp2_with fail
  go_loopw [8] (fun i wr => ∃ (j : Nat), j ≤ k ∧ i = .int .i64 j ∧ Hid (Tap wr gp lo (some l5)) ∧ Hid (RTap wr gr w.heap.size (some l5)) ∧ Hid (CurA wr w.heap.size Ac k) ∧ Hid (Below w.heap.size w wr)) (fun i _ => k - (intOf i).toNat)
  case atStart => exact ⟨0, by omega, rfl, T4, R4, C4, B4⟩
  case round =>
    clear T4 R4 C4 B4
    obtain ⟨j, hj, rfl, ht, hr, hc, hb⟩ := hrel
    by_cases hlt : j < k
    · have tj : (j : Int) < (k : Int) := by omega
      obtain ⟨g, rfl, hge, hgl, hcur⟩ := hc.out (by omega)
      have hglo := CLT.out g (by omega) rfl
      obtain ⟨x, hx, q1, q2⟩ := hcur.cell hlt
      have ex : (((x + 1) % 256 : Nat) : Int) = ((x : Int) + 1) % 256 := by omega
      have gg := grown_setCell wr g j (.int .u8 (((x + 1) % 256 : Nat) : Int))
      have hc2 := hid (show CurA (wr.setCell ⟨g, j, none⟩ (.int .u8 (((x + 1) % 256 : Nat) : Int))) w.heap.size (some ⟨g, 0, none⟩) k from fun _ => ⟨g, rfl, hge, by simpa using hgl, hcur.set (Nat.mod_lt _ (by omega))⟩)
      have ht2 := hid (ht.out.gr gg fun k e => by cases e; exact .inl hglo)
      have hr2 := hid (hr.out.gr gg fun k e => by cases e; exact ⟨hge, by have := HGP.out; have := LO.out; omega⟩)
      have hb2 := hid (below_by hb.out gg hge (Nat.le_refl _))
      rw [ex] at hc2 ht2 hr2 hb2
      clear ex gg hcur
      go_wp2_with fail
      go_roundw
      case rel => exact ⟨j + 1, by omega, by go_num, ht2, hr2, hc2, hb2⟩
      case measure => simp [intOf] <;> omega
    · obtain rfl : j = k := by omega
      clear hc
      obtain ⟨wo, hwo⟩ : ∃ x : World, x = wr := ⟨_, rfl⟩
      subst hwo
      go_wp2_with fail
      go_loopw [9] (fun i wr => ∃ (t : Nat) (st : BytM.Tp), t ≤ ln ∧ t ≤ 60 ∧ i = .int .i64 t ∧ Hid (Tap wr gp lo st) ∧ Hid (RTap wr gr w.heap.size st) ∧ Hid (Sml st) ∧ Hid (Below w.heap.size w wr)) (fun i _ => ln - (intOf i).toNat)
      case atStart => exact ⟨0, some l5, by omega, by omega, rfl, ht, hr, hid (fun s e => by cases e; rw [H5.out.len]; exact hk), hb⟩
      case round =>
        clear ht hr hb
        obtain ⟨t, st, htl, ht60, rfl, ht, hr, hsz, hb⟩ := hrel
        by_cases hgo : t < ln ∧ t < 60
        · obtain ⟨hlt1, hlt2⟩ := hgo
          have ti : (t : Int) < ln := by omega
          have ti2 : (t : Int) < 60 := by omega
          obtain ⟨b, o, rfl, hbl, hre⟩ := HE.out (by rw [HL.out]; omega)
          have hkx : t < xs.length := by rw [HL.out]; exact hlt1
          obtain ⟨wh, m, hcs, hw1, hw2, hm1, hm2⟩ := HX.out xs[t] (List.getElem_mem hkx)
          have hxk : xs[t]? = some [.int .i64 wh, .int .i64 m] := by rw [List.getElem?_eq_getElem hkx, hcs]
          have Q := hid fun w' (h : Below w.heap.size w w') => And.intro ((h.cell (p := ⟨b, o + t * 2 + 0, none⟩) hbl).trans (hre t _ hxk 0 (.int .i64 wh) rfl)) ((h.cell (p := ⟨b, o + t * 2 + 1, none⟩) hbl).trans (hre t _ hxk 1 (.int .i64 m) rfl))
          obtain ⟨q0, q1⟩ := Q.out _ hb.out
          rw [Nat.add_zero] at q0
          clear hre hcs hxk hkx
          go_upto_region 15 with fail
          generalize wh.tmod 3 = r at *
          by_cases hr0 : r = 0
          · subst hr0
            have C1 := hid fun w' (h : Tap w' gp lo st) => tnum_any w' h m
            have C2 := hid fun w' (h : RTap w' gr w.heap.size st) => rtnum_any w' h m hm1 hm2
            have S7 := hid (hsz.out.num m)
            generalize BytM.numS st m = st1 at *
            generalize BytM.numL st m = N at *
            have tr : (((0 : Int) == 0)) = true := rfl
            go_wp2_with fail
            refine wp_region_set (D := Both wr w.heap.size gp lo gr w.heap.size st st1 6 13) (fun j => decide (j = 6) || decide (j = 13)) 15 (fun j hj => by simp at hj; omega) (by kernel_rfl) (by kernel_rfl) (by kernel_rfl) (fun d d' w hd h => h.irr (hd 6 rfl) (hd 13 rfl)) (Both.start ht.out hr.out) ?_
            simp only [List.take_succ_cons, List.take_zero, List.drop_succ_cons, List.drop_zero]
            apply wpM_val
            · rfl
            · rfl
            · intro dd w' hw'
              go_simp
              first | exact rfl | exact ⟨rfl, hw'⟩
            simp only [Act.put, List.setIfInBounds_toArray, List.set_cons_succ, List.set_cons_zero]
            apply wpM_val
            · rfl
            · rfl
            · intro dd w' hw'
              go_simp
              first | exact rfl | exact ⟨rfl, hw'⟩
            simp only [Act.put, List.setIfInBounds_toArray, List.set_cons_succ, List.set_cons_zero]
            apply wpM_val
            · rfl
            · rfl
            · intro dd w' hw'
              go_simp
              first | exact rfl | exact ⟨rfl, hw'⟩
            simp only [Act.put, List.setIfInBounds_toArray, List.set_cons_succ, List.set_cons_zero]
            apply wpM_val
            · rfl
            · rfl
            · intro dd w' hw'
              go_simp
              first | exact rfl | exact ⟨rfl, hw'⟩
            simp only [Act.put, List.setIfInBounds_toArray, List.set_cons_succ, List.set_cons_zero]
            apply wpM_val
            · rfl
            · rfl
            · intro dd w' hw'
              go_simp
              first | exact rfl | exact ⟨rfl, hw'⟩
            simp only [Act.put, List.setIfInBounds_toArray, List.set_cons_succ, List.set_cons_zero]
            apply wpM_val
            · rfl
            · rfl
            · intro dd w' hw'
              have hcell := (Q.out _ (hb.out.trans hw'.1)).2
              go_simp
              first | exact rfl | exact ⟨rfl, hw'⟩
            simp only [Act.put, List.setIfInBounds_toArray, List.set_cons_succ, List.set_cons_zero]
            apply wpM_put
            · rfl
            · rfl
            · intro d w' hd hw'
              go_simp
              refine (C1.out w' (hw'.old hd)).mono ?_
              rintro e w'' ⟨rfl, t7, g7⟩
              exact ⟨rfl, hw'.first (by decide) t7 g7 (Nat.le_trans HI.out LO.out) hb.out.size (Nat.le_trans HI.out LO.out) (Nat.ne_of_lt HGP.out)⟩
            simp only [Act.put, List.setIfInBounds_toArray, List.set_cons_succ, List.set_cons_zero]
            apply wpM_val
            · rfl
            · rfl
            · intro dd w' hw'
              go_simp
              first | exact rfl | exact ⟨rfl, hw'⟩
            simp only [Act.put, List.setIfInBounds_toArray, List.set_cons_succ, List.set_cons_zero]
            apply wpM_val
            · rfl
            · rfl
            · intro dd w' hw'
              go_simp
              first | exact rfl | exact ⟨rfl, hw'⟩
            simp only [Act.put, List.setIfInBounds_toArray, List.set_cons_succ, List.set_cons_zero]
            apply wpM_val
            · rfl
            · rfl
            · intro dd w' hw'
              go_simp
              first | exact rfl | exact ⟨rfl, hw'⟩
            simp only [Act.put, List.setIfInBounds_toArray, List.set_cons_succ, List.set_cons_zero]
            apply wpM_val
            · rfl
            · rfl
            · intro dd w' hw'
              go_simp
              first | exact rfl | exact ⟨rfl, hw'⟩
            simp only [Act.put, List.setIfInBounds_toArray, List.set_cons_succ, List.set_cons_zero]
            apply wpM_val
            · rfl
            · rfl
            · intro dd w' hw'
              go_simp
              first | exact rfl | exact ⟨rfl, hw'⟩
            simp only [Act.put, List.setIfInBounds_toArray, List.set_cons_succ, List.set_cons_zero]
            apply wpM_val
            · rfl
            · rfl
            · intro dd w' hw'
              have hcell := (Q.out _ (hb.out.trans hw'.1)).2
              go_simp
              first | exact rfl | exact ⟨rfl, hw'⟩
            simp only [Act.put, List.setIfInBounds_toArray, List.set_cons_succ, List.set_cons_zero]
            apply wpM_put
            · rfl
            · rfl
            · intro d w' hd hw'
              go_simp
              refine (C2.out w' (hw'.old' hd)).mono ?_
              rintro e w'' ⟨rfl, t7, g7⟩
              exact ⟨rfl, hw'.second (by decide) t7 g7 (Nat.le_trans (Nat.le_trans HI.out LO.out) (Nat.le_of_lt HGP.out)) hb.out.size HGP.out⟩
            simp only [Act.put, List.setIfInBounds_toArray, List.set_cons_succ, List.set_cons_zero]
            apply wpM_val
            · rfl
            · rfl
            · intro dd w' hw'
              go_simp
              first | exact rfl | exact ⟨rfl, hw'⟩
            simp only [Act.put, List.setIfInBounds_toArray, List.set_cons_succ, List.set_cons_zero]
            refine wpM_nil ?_
            intro w7 h7
            obtain ⟨h71, h72, h73⟩ := h7.done rfl rfl
            have B7 := hid (hb.out.trans h71)
            have T7 := hid h72
            have R7 := hid h73
            clear h7 h71 h72 h73 C1 C2 ht hr hb
            have EN := hid fun w' (h : Below w7.heap.size w7 w') => end_any w' (T7.out.below h T7.out.lt)
            have TN := hid fun w' (h : Below w7.heap.size w7 w') => torn_any w' (T7.out.below h T7.out.lt)
            have RN := hid fun w' (h : Below w7.heap.size w7 w') => rend_any w' (R7.out.below h)
            have CB := hid (show w7.cell? ⟨gr, 2, none⟩ = some (.bool (!st1.isSome)) from by
              obtain ⟨_, A', n', cp', l', at', b8, _⟩ := R7.out
              exact b8.cell 2)
            have GRL := hid R7.out.lt
            obtain ⟨b1, hb1⟩ : ∃ b, b = (!st1.isSome) := ⟨_, rfl⟩
            obtain ⟨b2, hb2⟩ : ∃ b, b = decide (st1 = some []) := ⟨_, rfl⟩
            rw [← hb1] at CB TN
            rw [← hb2] at EN RN
            have t1 : (b1 == b1) = true := by cases b1 <;> rfl
            have t2 : (b2 == b2) = true := by cases b2 <;> rfl
            clear hb1 hb2
            go_wp2_with fail
            refine wp_region_tail (C := fun w' => Below w7.heap.size w7 w') 14 (by kernel_rfl) (by kernel_rfl) (by kernel_rfl) (Below.refl _ _).drew ?_
            simp only [List.take_succ_cons, List.take_zero, List.drop_succ_cons, List.drop_zero]
            apply wpK_val
            · rfl
            · intro w' hw'
              go_simp
              first | exact rfl | exact ⟨rfl, hw'⟩
            simp only [Act.put, List.setIfInBounds_toArray, List.set_cons_succ, List.set_cons_zero]
            apply wpK_val
            · rfl
            · intro w' hw'
              go_simp
              exact (TN.out _ hw').mono fun e w'' ⟨he, hb''⟩ => ⟨he, hb'' ▸ hw'⟩
            simp only [Act.put, List.setIfInBounds_toArray, List.set_cons_succ, List.set_cons_zero]
            apply wpK_val
            · rfl
            · intro w' hw'
              go_simp
              first | exact rfl | exact ⟨rfl, hw'⟩
            simp only [Act.put, List.setIfInBounds_toArray, List.set_cons_succ, List.set_cons_zero]
            apply wpK_val
            · rfl
            · intro w' hw'
              go_simp
              first | exact rfl | exact ⟨rfl, hw'⟩
            simp only [Act.put, List.setIfInBounds_toArray, List.set_cons_succ, List.set_cons_zero]
            apply wpK_val
            · rfl
            · intro w' hw'
              go_simp
              first | exact rfl | exact ⟨rfl, hw'⟩
            simp only [Act.put, List.setIfInBounds_toArray, List.set_cons_succ, List.set_cons_zero]
            apply wpK_val
            · rfl
            · intro w' hw'
              have hcell := (hw'.cell (p := ⟨gr, 2, none⟩) GRL.out).trans CB.out
              go_simp
              first | exact rfl | exact ⟨rfl, hw'⟩
            simp only [Act.put, List.setIfInBounds_toArray, List.set_cons_succ, List.set_cons_zero]
            apply wpK_val
            · rfl
            · intro w' hw'
              go_simp
              first | exact rfl | exact ⟨rfl, hw'⟩
            simp only [Act.put, List.setIfInBounds_toArray, List.set_cons_succ, List.set_cons_zero]
            apply wpK_val
            · rfl
            · intro w' hw'
              go_simp
              first | exact rfl | exact ⟨rfl, hw'⟩
            simp only [Act.put, List.setIfInBounds_toArray, List.set_cons_succ, List.set_cons_zero]
            apply wpK_val
            · rfl
            · intro w' hw'
              go_simp
              first | exact rfl | exact ⟨rfl, hw'⟩
            simp only [Act.put, List.setIfInBounds_toArray, List.set_cons_succ, List.set_cons_zero]
            apply wpK_val
            · rfl
            · intro w' hw'
              go_simp
              exact (EN.out _ hw').mono fun e w'' ⟨he, hb''⟩ => ⟨he, hb'' ▸ hw'⟩
            simp only [Act.put, List.setIfInBounds_toArray, List.set_cons_succ, List.set_cons_zero]
            apply wpK_val
            · rfl
            · intro w' hw'
              go_simp
              first | exact rfl | exact ⟨rfl, hw'⟩
            simp only [Act.put, List.setIfInBounds_toArray, List.set_cons_succ, List.set_cons_zero]
            apply wpK_val
            · rfl
            · intro w' hw'
              go_simp
              exact (RN.out _ hw').mono fun e w'' ⟨he, hb''⟩ => ⟨he, hw'.trans (hb''.mono hw'.size)⟩
            simp only [Act.put, List.setIfInBounds_toArray, List.set_cons_succ, List.set_cons_zero]
            apply wpK_val
            · rfl
            · intro w' hw'
              go_simp
              first | exact rfl | exact ⟨rfl, hw'⟩
            simp only [Act.put, List.setIfInBounds_toArray, List.set_cons_succ, List.set_cons_zero]
            apply wpK_val
            · rfl
            · intro w' hw'
              go_simp
              first | exact rfl | exact ⟨rfl, hw'⟩
            simp only [Act.put, List.setIfInBounds_toArray, List.set_cons_succ, List.set_cons_zero]
            refine wpK_nil fun w9 h9 => ?_
            have T9 := hid (T7.out.below h9 T7.out.lt)
            have R9 := hid (R7.out.below h9)
            have B9 := hid (B7.out.trans (h9.mono B7.out.size))
            clear h9
            go_wp2_with fail
            go_roundw
            case rel => exact ⟨t + 1, st1, by omega, by omega, by go_num, T9, R9, S7, B9⟩
            case measure => simp [intOf] <;> omega
          · have f0 : (r == 0) = false := by rw [beq_eq_false_iff_ne]; exact hr0
            by_cases hr1 : r = 1
            · subst hr1
              clear hr0
              have C1 := hid fun w' (h : Tap w' gp lo st) => tbytes_any w' h (fun s e => by have := hsz.out s e; omega) m
              have C2 := hid fun w' (h : RTap w' gr w.heap.size st) => rtbytes_any w' h m hm1 hm2
              have S7 := hid (hsz.out.cut m)
              have H256 := hid (BytM.cutL_256 ht.out.t256 m)
              generalize BytM.cutS st m = st1 at *
              generalize BytM.cutL st m = L at *
              go_wp2_with fail
              refine wp_region_ex (S := eS [some (.pointer (some ⟨gp, 0, none⟩)), some (.slice (some ⟨b, o, none⟩) ln lcap), some (.int .i64 t), some (.pointer (some ⟨b, o + t * 2, none⟩)), some (.pointer (some ⟨b, o + t * 2 + 1, none⟩)), some (.int .i64 m), none, some (.string (str L)), some (.pointer (some ⟨gr, 0, none⟩)), some (.slice (some ⟨b, o, none⟩) ln lcap), some (.int .i64 t), some (.pointer (some ⟨b, o + t * 2, none⟩)), some (.pointer (some ⟨b, o + t * 2 + 1, none⟩)), some (.int .i64 m), none, some (.string (str L)), some (.bool false)]) (D := tD 6 14 wr.heap.size L) (K := fun _ _ w w' => tK wr.heap.size w w') (C := Both wr w.heap.size gp lo gr w.heap.size st st1 6 14) 17 (by kernel_rfl) (by kernel_rfl) (by kernel_rfl)
                _ (eS_ok _) (fun i j vs w w' _ _ _ h hb => tD_keep h hb) (fun j i vs v w hji _ h => tD_loc hji h) (Both.start ht.out hr.out) fun vs => ?_
              simp only [List.take_succ_cons, List.take_zero, List.drop_succ_cons, List.drop_zero]
              refine ⟨.inl ⟨rfl, fun dd w' hd hC hDs => ?_⟩, fun e => ?_⟩
              · have hC2 : Both wr w.heap.size gp lo gr w.heap.size st st1 6 14 (upB dd 0) w' := hC.irr (upB_ne (by decide)).symm (upB_ne (by decide)).symm
                go_simp
                first | exact ⟨rfl, hC2, tK_refl _ _, tD_none (by decide) (by decide)⟩ | exact ⟨hC2, tK_refl _ _, tD_none (by decide) (by decide)⟩ | exact ⟨rfl, tK_refl _ _, tD_none (by decide) (by decide)⟩ | exact ⟨tK_refl _ _, tD_none (by decide) (by decide)⟩
              have e' : vs 0 = _ := e
              rw [e']
              clear e e'
              simp only [Act.put, List.setIfInBounds_toArray, List.set_cons_succ, List.set_cons_zero]
              refine ⟨.inl ⟨rfl, fun dd w' hd hC hDs => ?_⟩, fun e => ?_⟩
              · have hC2 : Both wr w.heap.size gp lo gr w.heap.size st st1 6 14 (upB dd 1) w' := hC.irr (upB_ne (by decide)).symm (upB_ne (by decide)).symm
                go_simp
                first | exact ⟨rfl, hC2, tK_refl _ _, tD_none (by decide) (by decide)⟩ | exact ⟨hC2, tK_refl _ _, tD_none (by decide) (by decide)⟩ | exact ⟨rfl, tK_refl _ _, tD_none (by decide) (by decide)⟩ | exact ⟨tK_refl _ _, tD_none (by decide) (by decide)⟩
              have e' : vs 1 = _ := e
              rw [e']
              clear e e'
              simp only [Act.put, List.setIfInBounds_toArray, List.set_cons_succ, List.set_cons_zero]
              refine ⟨.inl ⟨rfl, fun dd w' hd hC hDs => ?_⟩, fun e => ?_⟩
              · have hC2 : Both wr w.heap.size gp lo gr w.heap.size st st1 6 14 (upB dd 2) w' := hC.irr (upB_ne (by decide)).symm (upB_ne (by decide)).symm
                go_simp
                first | exact ⟨rfl, hC2, tK_refl _ _, tD_none (by decide) (by decide)⟩ | exact ⟨hC2, tK_refl _ _, tD_none (by decide) (by decide)⟩ | exact ⟨rfl, tK_refl _ _, tD_none (by decide) (by decide)⟩ | exact ⟨tK_refl _ _, tD_none (by decide) (by decide)⟩
              have e' : vs 2 = _ := e
              rw [e']
              clear e e'
              simp only [Act.put, List.setIfInBounds_toArray, List.set_cons_succ, List.set_cons_zero]
              refine ⟨.inl ⟨rfl, fun dd w' hd hC hDs => ?_⟩, fun e => ?_⟩
              · have hC2 : Both wr w.heap.size gp lo gr w.heap.size st st1 6 14 (upB dd 3) w' := hC.irr (upB_ne (by decide)).symm (upB_ne (by decide)).symm
                go_simp
                first | exact ⟨rfl, hC2, tK_refl _ _, tD_none (by decide) (by decide)⟩ | exact ⟨hC2, tK_refl _ _, tD_none (by decide) (by decide)⟩ | exact ⟨rfl, tK_refl _ _, tD_none (by decide) (by decide)⟩ | exact ⟨tK_refl _ _, tD_none (by decide) (by decide)⟩
              have e' : vs 3 = _ := e
              rw [e']
              clear e e'
              simp only [Act.put, List.setIfInBounds_toArray, List.set_cons_succ, List.set_cons_zero]
              refine ⟨.inl ⟨rfl, fun dd w' hd hC hDs => ?_⟩, fun e => ?_⟩
              · have hC2 : Both wr w.heap.size gp lo gr w.heap.size st st1 6 14 (upB dd 4) w' := hC.irr (upB_ne (by decide)).symm (upB_ne (by decide)).symm
                go_simp
                first | exact ⟨rfl, hC2, tK_refl _ _, tD_none (by decide) (by decide)⟩ | exact ⟨hC2, tK_refl _ _, tD_none (by decide) (by decide)⟩ | exact ⟨rfl, tK_refl _ _, tD_none (by decide) (by decide)⟩ | exact ⟨tK_refl _ _, tD_none (by decide) (by decide)⟩
              have e' : vs 4 = _ := e
              rw [e']
              clear e e'
              simp only [Act.put, List.setIfInBounds_toArray, List.set_cons_succ, List.set_cons_zero]
              refine ⟨.inl ⟨rfl, fun dd w' hd hC hDs => ?_⟩, fun e => ?_⟩
              · have hC2 : Both wr w.heap.size gp lo gr w.heap.size st st1 6 14 (upB dd 5) w' := hC.irr (upB_ne (by decide)).symm (upB_ne (by decide)).symm
                have hcell := (Q.out _ (hb.out.trans hC.1)).2
                go_simp
                first | exact ⟨rfl, hC2, tK_refl _ _, tD_none (by decide) (by decide)⟩ | exact ⟨hC2, tK_refl _ _, tD_none (by decide) (by decide)⟩ | exact ⟨rfl, tK_refl _ _, tD_none (by decide) (by decide)⟩ | exact ⟨tK_refl _ _, tD_none (by decide) (by decide)⟩
              have e' : vs 5 = _ := e
              rw [e']
              clear e e'
              simp only [Act.put, List.setIfInBounds_toArray, List.set_cons_succ, List.set_cons_zero]
              refine ⟨.inl ⟨rfl, fun dd w' hd hC hDs => ?_⟩, fun e => ?_⟩
              · go_simp
                refine (C1.out w' (hC.old hd)).mono ?_
                rintro e w'' ⟨v, rfl, o7, t7, g7⟩
                obtain ⟨A7, c7, e7, r7⟩ := o7.rd H256.out
                exact ⟨_, rfl, trivial, hC.first (by decide) t7 g7 (Nat.le_trans HI.out LO.out) hb.out.size (Nat.le_trans HI.out LO.out) (Nat.ne_of_lt HGP.out), ⟨_, g7, fun k e => by cases e; exact ht.out.lt⟩, fun _ => ⟨A7, c7, _, by rw [updV_self]; exact e7, Nat.le_refl _, r7.lower hC.1.size⟩⟩
              clear e
              simp only [Act.put, List.setIfInBounds_toArray, List.set_cons_succ, List.set_cons_zero]
              refine ⟨.inl ⟨rfl, fun dd w' hd hC hDs => ?_⟩, fun e => ?_⟩
              · have hC2 : Both wr w.heap.size gp lo gr w.heap.size st st1 6 14 (upB dd 7) w' := hC.irr (upB_ne (by decide)).symm (upB_ne (by decide)).symm
                obtain ⟨A7, c7, hi7, e7, h7, r7⟩ := hDs 6 (by kernel_rfl) (.inl rfl)
                have hs := (r7.arg h7).str
                rw [e7]
                go_simp
                first | exact ⟨rfl, hC2, tK_refl _ _, tD_none (by decide) (by decide)⟩ | exact ⟨hC2, tK_refl _ _, tD_none (by decide) (by decide)⟩ | exact ⟨rfl, tK_refl _ _, tD_none (by decide) (by decide)⟩ | exact ⟨tK_refl _ _, tD_none (by decide) (by decide)⟩
              have e' : vs 7 = _ := e
              rw [e']
              clear e e'
              simp only [Act.put, List.setIfInBounds_toArray, List.set_cons_succ, List.set_cons_zero]
              refine ⟨.inl ⟨rfl, fun dd w' hd hC hDs => ?_⟩, fun e => ?_⟩
              · have hC2 : Both wr w.heap.size gp lo gr w.heap.size st st1 6 14 (upB dd 8) w' := hC.irr (upB_ne (by decide)).symm (upB_ne (by decide)).symm
                go_simp
                first | exact ⟨rfl, hC2, tK_refl _ _, tD_none (by decide) (by decide)⟩ | exact ⟨hC2, tK_refl _ _, tD_none (by decide) (by decide)⟩ | exact ⟨rfl, tK_refl _ _, tD_none (by decide) (by decide)⟩ | exact ⟨tK_refl _ _, tD_none (by decide) (by decide)⟩
              have e' : vs 8 = _ := e
              rw [e']
              clear e e'
              simp only [Act.put, List.setIfInBounds_toArray, List.set_cons_succ, List.set_cons_zero]
              refine ⟨.inl ⟨rfl, fun dd w' hd hC hDs => ?_⟩, fun e => ?_⟩
              · have hC2 : Both wr w.heap.size gp lo gr w.heap.size st st1 6 14 (upB dd 9) w' := hC.irr (upB_ne (by decide)).symm (upB_ne (by decide)).symm
                go_simp
                first | exact ⟨rfl, hC2, tK_refl _ _, tD_none (by decide) (by decide)⟩ | exact ⟨hC2, tK_refl _ _, tD_none (by decide) (by decide)⟩ | exact ⟨rfl, tK_refl _ _, tD_none (by decide) (by decide)⟩ | exact ⟨tK_refl _ _, tD_none (by decide) (by decide)⟩
              have e' : vs 9 = _ := e
              rw [e']
              clear e e'
              simp only [Act.put, List.setIfInBounds_toArray, List.set_cons_succ, List.set_cons_zero]
              refine ⟨.inl ⟨rfl, fun dd w' hd hC hDs => ?_⟩, fun e => ?_⟩
              · have hC2 : Both wr w.heap.size gp lo gr w.heap.size st st1 6 14 (upB dd 10) w' := hC.irr (upB_ne (by decide)).symm (upB_ne (by decide)).symm
                go_simp
                first | exact ⟨rfl, hC2, tK_refl _ _, tD_none (by decide) (by decide)⟩ | exact ⟨hC2, tK_refl _ _, tD_none (by decide) (by decide)⟩ | exact ⟨rfl, tK_refl _ _, tD_none (by decide) (by decide)⟩ | exact ⟨tK_refl _ _, tD_none (by decide) (by decide)⟩
              have e' : vs 10 = _ := e
              rw [e']
              clear e e'
              simp only [Act.put, List.setIfInBounds_toArray, List.set_cons_succ, List.set_cons_zero]
              refine ⟨.inl ⟨rfl, fun dd w' hd hC hDs => ?_⟩, fun e => ?_⟩
              · have hC2 : Both wr w.heap.size gp lo gr w.heap.size st st1 6 14 (upB dd 11) w' := hC.irr (upB_ne (by decide)).symm (upB_ne (by decide)).symm
                go_simp
                first | exact ⟨rfl, hC2, tK_refl _ _, tD_none (by decide) (by decide)⟩ | exact ⟨hC2, tK_refl _ _, tD_none (by decide) (by decide)⟩ | exact ⟨rfl, tK_refl _ _, tD_none (by decide) (by decide)⟩ | exact ⟨tK_refl _ _, tD_none (by decide) (by decide)⟩
              have e' : vs 11 = _ := e
              rw [e']
              clear e e'
              simp only [Act.put, List.setIfInBounds_toArray, List.set_cons_succ, List.set_cons_zero]
              refine ⟨.inl ⟨rfl, fun dd w' hd hC hDs => ?_⟩, fun e => ?_⟩
              · have hC2 : Both wr w.heap.size gp lo gr w.heap.size st st1 6 14 (upB dd 12) w' := hC.irr (upB_ne (by decide)).symm (upB_ne (by decide)).symm
                go_simp
                first | exact ⟨rfl, hC2, tK_refl _ _, tD_none (by decide) (by decide)⟩ | exact ⟨hC2, tK_refl _ _, tD_none (by decide) (by decide)⟩ | exact ⟨rfl, tK_refl _ _, tD_none (by decide) (by decide)⟩ | exact ⟨tK_refl _ _, tD_none (by decide) (by decide)⟩
              have e' : vs 12 = _ := e
              rw [e']
              clear e e'
              simp only [Act.put, List.setIfInBounds_toArray, List.set_cons_succ, List.set_cons_zero]
              refine ⟨.inl ⟨rfl, fun dd w' hd hC hDs => ?_⟩, fun e => ?_⟩
              · have hC2 : Both wr w.heap.size gp lo gr w.heap.size st st1 6 14 (upB dd 13) w' := hC.irr (upB_ne (by decide)).symm (upB_ne (by decide)).symm
                have hcell := (Q.out _ (hb.out.trans hC.1)).2
                go_simp
                first | exact ⟨rfl, hC2, tK_refl _ _, tD_none (by decide) (by decide)⟩ | exact ⟨hC2, tK_refl _ _, tD_none (by decide) (by decide)⟩ | exact ⟨rfl, tK_refl _ _, tD_none (by decide) (by decide)⟩ | exact ⟨tK_refl _ _, tD_none (by decide) (by decide)⟩
              have e' : vs 13 = _ := e
              rw [e']
              clear e e'
              simp only [Act.put, List.setIfInBounds_toArray, List.set_cons_succ, List.set_cons_zero]
              refine ⟨.inl ⟨rfl, fun dd w' hd hC hDs => ?_⟩, fun e => ?_⟩
              · go_simp
                refine (C2.out w' (hC.old' hd)).mono ?_
                rintro e w'' ⟨v, rfl, o7, t7, g7⟩
                obtain ⟨A7, c7, e7, r7⟩ := o7.rd H256.out
                exact ⟨_, rfl, trivial, hC.second (by decide) t7 g7 (Nat.le_trans (Nat.le_trans HI.out LO.out) (Nat.le_of_lt HGP.out)) hb.out.size HGP.out, ⟨_, g7, fun k e => by cases e; exact hr.out.lt⟩, fun _ => ⟨A7, c7, _, by rw [updV_self]; exact e7, Nat.le_refl _, r7.lower hC.1.size⟩⟩
              clear e
              simp only [Act.put, List.setIfInBounds_toArray, List.set_cons_succ, List.set_cons_zero]
              refine ⟨.inl ⟨rfl, fun dd w' hd hC hDs => ?_⟩, fun e => ?_⟩
              · have hC2 : Both wr w.heap.size gp lo gr w.heap.size st st1 6 14 (upB dd 15) w' := hC.irr (upB_ne (by decide)).symm (upB_ne (by decide)).symm
                obtain ⟨A7, c7, hi7, e7, h7, r7⟩ := hDs 14 (by kernel_rfl) (.inr rfl)
                have hs := (r7.arg h7).str
                rw [e7]
                go_simp
                first | exact ⟨rfl, hC2, tK_refl _ _, tD_none (by decide) (by decide)⟩ | exact ⟨hC2, tK_refl _ _, tD_none (by decide) (by decide)⟩ | exact ⟨rfl, tK_refl _ _, tD_none (by decide) (by decide)⟩ | exact ⟨tK_refl _ _, tD_none (by decide) (by decide)⟩
              have e' : vs 15 = _ := e
              rw [e']
              clear e e'
              simp only [Act.put, List.setIfInBounds_toArray, List.set_cons_succ, List.set_cons_zero]
              refine ⟨.inl ⟨rfl, fun dd w' hd hC hDs => ?_⟩, fun e => ?_⟩
              · have hC2 : Both wr w.heap.size gp lo gr w.heap.size st st1 6 14 (upB dd 16) w' := hC.irr (upB_ne (by decide)).symm (upB_ne (by decide)).symm
                have h1 : ((str L).toList == (str L).toList) = true := beq_self_eq_true _
                go_simp
                first | exact ⟨rfl, hC2, tK_refl _ _, tD_none (by decide) (by decide)⟩ | exact ⟨hC2, tK_refl _ _, tD_none (by decide) (by decide)⟩ | exact ⟨rfl, tK_refl _ _, tD_none (by decide) (by decide)⟩ | exact ⟨tK_refl _ _, tD_none (by decide) (by decide)⟩
              have e' : vs 16 = _ := e
              rw [e']
              clear e e'
              simp only [Act.put, List.setIfInBounds_toArray, List.set_cons_succ, List.set_cons_zero]
              intro dd w7 hdd h7 _
              obtain ⟨h71, h72, h73⟩ := h7.done (hdd 6 (by omega)) (hdd 14 (by omega))
              have B7 := hid (hb.out.trans h71)
              have T7 := hid h72
              have R7 := hid h73
              clear h7 h71 h72 h73 C1 C2 ht hr hb
              have EN := hid fun w' (h : Below w7.heap.size w7 w') => end_any w' (T7.out.below h T7.out.lt)
              have TN := hid fun w' (h : Below w7.heap.size w7 w') => torn_any w' (T7.out.below h T7.out.lt)
              have RN := hid fun w' (h : Below w7.heap.size w7 w') => rend_any w' (R7.out.below h)
              have CB := hid (show w7.cell? ⟨gr, 2, none⟩ = some (.bool (!st1.isSome)) from by
                obtain ⟨_, A', n', cp', l', at', b8, _⟩ := R7.out
                exact b8.cell 2)
              have GRL := hid R7.out.lt
              obtain ⟨b1, hb1⟩ : ∃ b, b = (!st1.isSome) := ⟨_, rfl⟩
              obtain ⟨b2, hb2⟩ : ∃ b, b = decide (st1 = some []) := ⟨_, rfl⟩
              rw [← hb1] at CB TN
              rw [← hb2] at EN RN
              have t1 : (b1 == b1) = true := by cases b1 <;> rfl
              have t2 : (b2 == b2) = true := by cases b2 <;> rfl
              clear hb1 hb2
              go_wp2_with fail
              refine wp_region_tail (C := fun w' => Below w7.heap.size w7 w') 14 (by kernel_rfl) (by kernel_rfl) (by kernel_rfl) (Below.refl _ _).drew ?_
              simp only [List.take_succ_cons, List.take_zero, List.drop_succ_cons, List.drop_zero]
              apply wpK_val
              · rfl
              · intro w' hw'
                go_simp
                first | exact rfl | exact ⟨rfl, hw'⟩
              simp only [Act.put, List.setIfInBounds_toArray, List.set_cons_succ, List.set_cons_zero]
              apply wpK_val
              · rfl
              · intro w' hw'
                go_simp
                exact (TN.out _ hw').mono fun e w'' ⟨he, hb''⟩ => ⟨he, hb'' ▸ hw'⟩
              simp only [Act.put, List.setIfInBounds_toArray, List.set_cons_succ, List.set_cons_zero]
              apply wpK_val
              · rfl
              · intro w' hw'
                go_simp
                first | exact rfl | exact ⟨rfl, hw'⟩
              simp only [Act.put, List.setIfInBounds_toArray, List.set_cons_succ, List.set_cons_zero]
              apply wpK_val
              · rfl
              · intro w' hw'
                go_simp
                first | exact rfl | exact ⟨rfl, hw'⟩
              simp only [Act.put, List.setIfInBounds_toArray, List.set_cons_succ, List.set_cons_zero]
              apply wpK_val
              · rfl
              · intro w' hw'
                go_simp
                first | exact rfl | exact ⟨rfl, hw'⟩
              simp only [Act.put, List.setIfInBounds_toArray, List.set_cons_succ, List.set_cons_zero]
              apply wpK_val
              · rfl
              · intro w' hw'
                have hcell := (hw'.cell (p := ⟨gr, 2, none⟩) GRL.out).trans CB.out
                go_simp
                first | exact rfl | exact ⟨rfl, hw'⟩
              simp only [Act.put, List.setIfInBounds_toArray, List.set_cons_succ, List.set_cons_zero]
              apply wpK_val
              · rfl
              · intro w' hw'
                go_simp
                first | exact rfl | exact ⟨rfl, hw'⟩
              simp only [Act.put, List.setIfInBounds_toArray, List.set_cons_succ, List.set_cons_zero]
              apply wpK_val
              · rfl
              · intro w' hw'
                go_simp
                first | exact rfl | exact ⟨rfl, hw'⟩
              simp only [Act.put, List.setIfInBounds_toArray, List.set_cons_succ, List.set_cons_zero]
              apply wpK_val
              · rfl
              · intro w' hw'
                go_simp
                first | exact rfl | exact ⟨rfl, hw'⟩
              simp only [Act.put, List.setIfInBounds_toArray, List.set_cons_succ, List.set_cons_zero]
              apply wpK_val
              · rfl
              · intro w' hw'
                go_simp
                exact (EN.out _ hw').mono fun e w'' ⟨he, hb''⟩ => ⟨he, hb'' ▸ hw'⟩
              simp only [Act.put, List.setIfInBounds_toArray, List.set_cons_succ, List.set_cons_zero]
              apply wpK_val
              · rfl
              · intro w' hw'
                go_simp
                first | exact rfl | exact ⟨rfl, hw'⟩
              simp only [Act.put, List.setIfInBounds_toArray, List.set_cons_succ, List.set_cons_zero]
              apply wpK_val
              · rfl
              · intro w' hw'
                go_simp
                exact (RN.out _ hw').mono fun e w'' ⟨he, hb''⟩ => ⟨he, hw'.trans (hb''.mono hw'.size)⟩
              simp only [Act.put, List.setIfInBounds_toArray, List.set_cons_succ, List.set_cons_zero]
              apply wpK_val
              · rfl
              · intro w' hw'
                go_simp
                first | exact rfl | exact ⟨rfl, hw'⟩
              simp only [Act.put, List.setIfInBounds_toArray, List.set_cons_succ, List.set_cons_zero]
              apply wpK_val
              · rfl
              · intro w' hw'
                go_simp
                first | exact rfl | exact ⟨rfl, hw'⟩
              simp only [Act.put, List.setIfInBounds_toArray, List.set_cons_succ, List.set_cons_zero]
              refine wpK_nil fun w9 h9 => ?_
              have T9 := hid (T7.out.below h9 T7.out.lt)
              have R9 := hid (R7.out.below h9)
              have B9 := hid (B7.out.trans (h9.mono B7.out.size))
              clear h9
              go_wp2_with fail
              go_roundw
              case rel => exact ⟨t + 1, st1, by omega, by omega, by go_num, T9, R9, S7, B9⟩
              case measure => simp [intOf] <;> omega
            · have f1 : (r == 1) = false := by rw [beq_eq_false_iff_ne]; exact hr1
              clear hr0 hr1
              have C1 := hid fun w' (h : Tap w' gp lo st) => ttext_any w' h m
              have C2 := hid fun w' (h : RTap w' gr w.heap.size st) => rttext_any w' h m hm1 hm2
              have S7 := hid (hsz.out.txt m)
              generalize BytM.txtS st m = st1 at *
              generalize str (BytM.txtL st m) = s at *
              go_wp2_with fail
              refine wp_region_set (D := Both wr w.heap.size gp lo gr w.heap.size st st1 6 13) (fun j => decide (j = 6) || decide (j = 13)) 15 (fun j hj => by simp at hj; omega) (by kernel_rfl) (by kernel_rfl) (by kernel_rfl) (fun d d' w hd h => h.irr (hd 6 rfl) (hd 13 rfl)) (Both.start ht.out hr.out) ?_
              simp only [List.take_succ_cons, List.take_zero, List.drop_succ_cons, List.drop_zero]
              apply wpM_val
              · rfl
              · rfl
              · intro dd w' hw'
                go_simp
                first | exact rfl | exact ⟨rfl, hw'⟩
              simp only [Act.put, List.setIfInBounds_toArray, List.set_cons_succ, List.set_cons_zero]
              apply wpM_val
              · rfl
              · rfl
              · intro dd w' hw'
                go_simp
                first | exact rfl | exact ⟨rfl, hw'⟩
              simp only [Act.put, List.setIfInBounds_toArray, List.set_cons_succ, List.set_cons_zero]
              apply wpM_val
              · rfl
              · rfl
              · intro dd w' hw'
                go_simp
                first | exact rfl | exact ⟨rfl, hw'⟩
              simp only [Act.put, List.setIfInBounds_toArray, List.set_cons_succ, List.set_cons_zero]
              apply wpM_val
              · rfl
              · rfl
              · intro dd w' hw'
                go_simp
                first | exact rfl | exact ⟨rfl, hw'⟩
              simp only [Act.put, List.setIfInBounds_toArray, List.set_cons_succ, List.set_cons_zero]
              apply wpM_val
              · rfl
              · rfl
              · intro dd w' hw'
                go_simp
                first | exact rfl | exact ⟨rfl, hw'⟩
              simp only [Act.put, List.setIfInBounds_toArray, List.set_cons_succ, List.set_cons_zero]
              apply wpM_val
              · rfl
              · rfl
              · intro dd w' hw'
                have hcell := (Q.out _ (hb.out.trans hw'.1)).2
                go_simp
                first | exact rfl | exact ⟨rfl, hw'⟩
              simp only [Act.put, List.setIfInBounds_toArray, List.set_cons_succ, List.set_cons_zero]
              apply wpM_put
              · rfl
              · rfl
              · intro d w' hd hw'
                go_simp
                refine (C1.out w' (hw'.old hd)).mono ?_
                rintro e w'' ⟨rfl, t7, g7⟩
                exact ⟨rfl, hw'.first (by decide) t7 g7 (Nat.le_trans HI.out LO.out) hb.out.size (Nat.le_trans HI.out LO.out) (Nat.ne_of_lt HGP.out)⟩
              simp only [Act.put, List.setIfInBounds_toArray, List.set_cons_succ, List.set_cons_zero]
              apply wpM_val
              · rfl
              · rfl
              · intro dd w' hw'
                go_simp
                first | exact rfl | exact ⟨rfl, hw'⟩
              simp only [Act.put, List.setIfInBounds_toArray, List.set_cons_succ, List.set_cons_zero]
              apply wpM_val
              · rfl
              · rfl
              · intro dd w' hw'
                go_simp
                first | exact rfl | exact ⟨rfl, hw'⟩
              simp only [Act.put, List.setIfInBounds_toArray, List.set_cons_succ, List.set_cons_zero]
              apply wpM_val
              · rfl
              · rfl
              · intro dd w' hw'
                go_simp
                first | exact rfl | exact ⟨rfl, hw'⟩
              simp only [Act.put, List.setIfInBounds_toArray, List.set_cons_succ, List.set_cons_zero]
              apply wpM_val
              · rfl
              · rfl
              · intro dd w' hw'
                go_simp
                first | exact rfl | exact ⟨rfl, hw'⟩
              simp only [Act.put, List.setIfInBounds_toArray, List.set_cons_succ, List.set_cons_zero]
              apply wpM_val
              · rfl
              · rfl
              · intro dd w' hw'
                go_simp
                first | exact rfl | exact ⟨rfl, hw'⟩
              simp only [Act.put, List.setIfInBounds_toArray, List.set_cons_succ, List.set_cons_zero]
              apply wpM_val
              · rfl
              · rfl
              · intro dd w' hw'
                have hcell := (Q.out _ (hb.out.trans hw'.1)).2
                go_simp
                first | exact rfl | exact ⟨rfl, hw'⟩
              simp only [Act.put, List.setIfInBounds_toArray, List.set_cons_succ, List.set_cons_zero]
              apply wpM_put
              · rfl
              · rfl
              · intro d w' hd hw'
                go_simp
                refine (C2.out w' (hw'.old' hd)).mono ?_
                rintro e w'' ⟨rfl, t7, g7⟩
                exact ⟨rfl, hw'.second (by decide) t7 g7 (Nat.le_trans (Nat.le_trans HI.out LO.out) (Nat.le_of_lt HGP.out)) hb.out.size HGP.out⟩
              simp only [Act.put, List.setIfInBounds_toArray, List.set_cons_succ, List.set_cons_zero]
              apply wpM_val
              · rfl
              · rfl
              · intro dd w' hw'
                have h1 : (s.toList == s.toList) = true := beq_self_eq_true _
                go_simp
                first | exact rfl | exact ⟨rfl, hw'⟩
              simp only [Act.put, List.setIfInBounds_toArray, List.set_cons_succ, List.set_cons_zero]
              refine wpM_nil ?_
              intro w7 h7
              obtain ⟨h71, h72, h73⟩ := h7.done rfl rfl
              have B7 := hid (hb.out.trans h71)
              have T7 := hid h72
              have R7 := hid h73
              clear h7 h71 h72 h73 C1 C2 ht hr hb
              have EN := hid fun w' (h : Below w7.heap.size w7 w') => end_any w' (T7.out.below h T7.out.lt)
              have TN := hid fun w' (h : Below w7.heap.size w7 w') => torn_any w' (T7.out.below h T7.out.lt)
              have RN := hid fun w' (h : Below w7.heap.size w7 w') => rend_any w' (R7.out.below h)
              have CB := hid (show w7.cell? ⟨gr, 2, none⟩ = some (.bool (!st1.isSome)) from by
                obtain ⟨_, A', n', cp', l', at', b8, _⟩ := R7.out
                exact b8.cell 2)
              have GRL := hid R7.out.lt
              obtain ⟨b1, hb1⟩ : ∃ b, b = (!st1.isSome) := ⟨_, rfl⟩
              obtain ⟨b2, hb2⟩ : ∃ b, b = decide (st1 = some []) := ⟨_, rfl⟩
              rw [← hb1] at CB TN
              rw [← hb2] at EN RN
              have t1 : (b1 == b1) = true := by cases b1 <;> rfl
              have t2 : (b2 == b2) = true := by cases b2 <;> rfl
              clear hb1 hb2
              go_wp2_with fail
              refine wp_region_tail (C := fun w' => Below w7.heap.size w7 w') 14 (by kernel_rfl) (by kernel_rfl) (by kernel_rfl) (Below.refl _ _).drew ?_
              simp only [List.take_succ_cons, List.take_zero, List.drop_succ_cons, List.drop_zero]
              apply wpK_val
              · rfl
              · intro w' hw'
                go_simp
                first | exact rfl | exact ⟨rfl, hw'⟩
              simp only [Act.put, List.setIfInBounds_toArray, List.set_cons_succ, List.set_cons_zero]
              apply wpK_val
              · rfl
              · intro w' hw'
                go_simp
                exact (TN.out _ hw').mono fun e w'' ⟨he, hb''⟩ => ⟨he, hb'' ▸ hw'⟩
              simp only [Act.put, List.setIfInBounds_toArray, List.set_cons_succ, List.set_cons_zero]
              apply wpK_val
              · rfl
              · intro w' hw'
                go_simp
                first | exact rfl | exact ⟨rfl, hw'⟩
              simp only [Act.put, List.setIfInBounds_toArray, List.set_cons_succ, List.set_cons_zero]
              apply wpK_val
              · rfl
              · intro w' hw'
                go_simp
                first | exact rfl | exact ⟨rfl, hw'⟩
              simp only [Act.put, List.setIfInBounds_toArray, List.set_cons_succ, List.set_cons_zero]
              apply wpK_val
              · rfl
              · intro w' hw'
                go_simp
                first | exact rfl | exact ⟨rfl, hw'⟩
              simp only [Act.put, List.setIfInBounds_toArray, List.set_cons_succ, List.set_cons_zero]
              apply wpK_val
              · rfl
              · intro w' hw'
                have hcell := (hw'.cell (p := ⟨gr, 2, none⟩) GRL.out).trans CB.out
                go_simp
                first | exact rfl | exact ⟨rfl, hw'⟩
              simp only [Act.put, List.setIfInBounds_toArray, List.set_cons_succ, List.set_cons_zero]
              apply wpK_val
              · rfl
              · intro w' hw'
                go_simp
                first | exact rfl | exact ⟨rfl, hw'⟩
              simp only [Act.put, List.setIfInBounds_toArray, List.set_cons_succ, List.set_cons_zero]
              apply wpK_val
              · rfl
              · intro w' hw'
                go_simp
                first | exact rfl | exact ⟨rfl, hw'⟩
              simp only [Act.put, List.setIfInBounds_toArray, List.set_cons_succ, List.set_cons_zero]
              apply wpK_val
              · rfl
              · intro w' hw'
                go_simp
                first | exact rfl | exact ⟨rfl, hw'⟩
              simp only [Act.put, List.setIfInBounds_toArray, List.set_cons_succ, List.set_cons_zero]
              apply wpK_val
              · rfl
              · intro w' hw'
                go_simp
                exact (EN.out _ hw').mono fun e w'' ⟨he, hb''⟩ => ⟨he, hb'' ▸ hw'⟩
              simp only [Act.put, List.setIfInBounds_toArray, List.set_cons_succ, List.set_cons_zero]
              apply wpK_val
              · rfl
              · intro w' hw'
                go_simp
                first | exact rfl | exact ⟨rfl, hw'⟩
              simp only [Act.put, List.setIfInBounds_toArray, List.set_cons_succ, List.set_cons_zero]
              apply wpK_val
              · rfl
              · intro w' hw'
                go_simp
                exact (RN.out _ hw').mono fun e w'' ⟨he, hb''⟩ => ⟨he, hw'.trans (hb''.mono hw'.size)⟩
              simp only [Act.put, List.setIfInBounds_toArray, List.set_cons_succ, List.set_cons_zero]
              apply wpK_val
              · rfl
              · intro w' hw'
                go_simp
                first | exact rfl | exact ⟨rfl, hw'⟩
              simp only [Act.put, List.setIfInBounds_toArray, List.set_cons_succ, List.set_cons_zero]
              apply wpK_val
              · rfl
              · intro w' hw'
                go_simp
                first | exact rfl | exact ⟨rfl, hw'⟩
              simp only [Act.put, List.setIfInBounds_toArray, List.set_cons_succ, List.set_cons_zero]
              refine wpK_nil fun w9 h9 => ?_
              have T9 := hid (T7.out.below h9 T7.out.lt)
              have R9 := hid (R7.out.below h9)
              have B9 := hid (B7.out.trans (h9.mono B7.out.size))
              clear h9
              go_wp2_with fail
              go_roundw
              case rel => exact ⟨t + 1, st1, by omega, by omega, by go_num, T9, R9, S7, B9⟩
              case measure => simp [intOf] <;> omega
        · have HB := hid hb.out
          have tg : ((t : Int) < ln) = False ∨ ((t : Int) < 60) = False := by
            by_cases h : t < ln
            · right; simp; omega
            · left; simp; omega
          clear ht hr hb
          by_cases h : t < ln
          · have t1 : (t : Int) < ln := by omega
            have t2 : decide ((t : Int) < 60) = false := by simp; omega
            clear tg hgo
            go_wp2_with fail
            refine (works_any wr).mono ?_
            rintro e w9 ⟨rfl, b9⟩
            have b10 := HB.out.trans (b9.mono HB.out.size)
            clear b9
            go_wp2_with fail
            go_ret
            exact ⟨rfl, b10⟩
          · have t1 : decide ((t : Int) < ln) = false := by simp; omega
            clear tg hgo
            go_wp2_with fail
            refine (works_any wr).mono ?_
            rintro e w9 ⟨rfl, b9⟩
            have b10 := HB.out.trans (b9.mono HB.out.size)
            clear b9
            go_wp2_with fail
            go_ret
            exact ⟨rfl, b10⟩
end Go.Proofs.Ytiebaiofpihoiaa
