/-
  The contract of casemateref10.Unwrap.
  Contract of the document's bytes of a tag (casemateref04.Bytes) over this translation.
  The contract of casemateref10.Put.
  A slice of bytes cut out of another one: as an operation of the walk that leaves one address, whatever it is.
  The contract of casemateref10.Get.
  The law's own digits of a number.
  The law's struct of a wrapping key, a label and a number; its label.
  What comes in: rows of n bytes by value.
  What comes in: a wrapping key, a label and a number.
  A text turned into bytes of the call's own.
  Contract of derive.Sub.
  The law's own row of a box's data, and the tag of that row.
  The tag of a known text under a known key, reckoned out.
  The pad of the box that the law's works makes is not zero (reckoned out).
  Results that lie in a row of bytes and in slots; a row of zeros built; a row of one kind of bytes, zero.
  Rows of bytes of any type compared; loaded, in regions whose values hang on their order.
  What is wanted of the program's box: the contracts of its four calls; the law's works by them.
  Structs and arrays of any cells, loaded and stored whole.
  Lists of elements of k cells each: as they lie in memory, and as a list of the call's own. Worlds in which only blocks of a set are turned.
  '==' of structs whose fields are rows of bytes.
  A region that draws its order, makes one new variable and stores into it ('x, e := f(y)'): its address hangs on the order; the store may come up ahead of what does not wait for it.
-/
import Derived.Test.YtdfoehcdabmagaaDoorMrg5
import Derived.Deep.Strs
import Derived.Lib.ConvBytes
import Derived.Laws.AppendOwnNone
set_option linter.unusedVariables false
set_option linter.unusedSimpArgs false
set_option maxRecDepth 100000
namespace Go.Proofs.YtdfoehcdabmagaaDoor
open Go.ChangeShapes Go.WideShapes Go.ChangeAt Go.RowKit
open DvP (tK tT sub)
attribute [local go_sem] Gives GivesE
section
variable {ops : Array Oper} {Q : Exit → Act → World → Prop} {a : Act} {w : World} {rest : List Oper} {dst : Option Tmp} {ty r : TypeId} {pos : String} {after : Array Edge} {x y : Operand} {f g : Nat → Nat} {T : TypeId} {n : Nat}
theorem neU (b : Bool) (hT : Tryd.prog.underlying T = some (.array n 5)) (hg : Tryd.prog.eqGuardType Tryd.prog.depth T = false) (hx : a.eval x = .agg (ar n f)) (hy : a.eval y = .agg (ar n g)) (hb : (!eqA n f g) = b)
    (hk : wpList Tryd.prog ops Q rest (a.put dst (.bool b)) w) : wpList Tryd.prog ops Q (⟨dst, .binOp .neq T x y r, ty, pos, after, none⟩ :: rest) a w := by
  have h1 : (eqGuard .neq T x y (.agg (ar n f)) (.agg (ar n g))).run Tryd.prog w = .ok () w := by
    simp [eqGuard, hg, go_sem]
  have hr : (execOp a.eval ⟨dst, .binOp .neq T x y r, ty, pos, after, none⟩).run Tryd.prog w = .ok (.value (.bool b)) w := by
    simp only [execOp, hx, hy, Sem.run_bind, h1, run_neq_ar hT, Result.andThen_ok, Sem.run_pure, hb]
  refine wpList_plain rfl fun K hK => ?_
  unfold Oper.wp
  rw [hr]
  exact hK _ _ hk
theorem bldZ (hz : Tryd.prog.built T [] = some (ar n fun _ => 0)) (hk : wpList Tryd.prog ops Q rest (a.put dst (.agg (ar n fun _ => 0))) w) :
    wpList Tryd.prog ops Q (⟨dst, .build T #[], ty, pos, after, none⟩ :: rest) a w := by
  have hr : (Instr.build T #[]).run Tryd.prog w = .ok (.agg (ar n fun _ => 0)) w := run_build w _ _ _ hz
  refine wpList_plain rfl fun K hK => ?_
  unfold Oper.wp execOp
  simp [hr, Result.andThen]
  exact hK _ _ hk
theorem ret_art {t : TypeId} {h : Nat} {fn : Func} {R : Ending → World → Prop} {p q : Tmp} {v : Value} (hT : ArT T n) (hr : fn.results = #[.cell p T, .tmp q]) (hp : a.tmps.getD p undef = .pointer (some ⟨h, 0, none⟩)) (hq : a.tmps.getD q undef = v)
    (hdf : a.defers = []) (hb : Blk w h t (ar n f)) (hR : R (.returned (.tuple #[.agg (ar n f), v])) w) : bodyPost Tryd.prog fn R .ret a w := by
  refine bodyPost_ret ?_ hdf hR
  have hp' : a.tmps[p]?.getD undef = .pointer (some ⟨h, 0, none⟩) := by simpa using hp
  have hq' : a.tmps[q]?.getD undef = v := by simpa using hq
  simp [results, hr, hp', hq', asAddr, run_ar_var hT hb]
end
namespace BxP
theorem duo_at0 {w : World} {b : Nat} {t : TypeId} {f g : Nat → Nat} (hb : Blk w b t (ar 64 (duo f g))) : w.rangeAt b 0 (ar 32 f).toList := by
  have h := hb.arRange (o := 0) (m := 32) (by omega)
  rwa [ar_ext duo0] at h
theorem duo_at1 {w : World} {b : Nat} {t : TypeId} {f g : Nat → Nat} (hb : Blk w b t (ar 64 (duo f g))) : w.rangeAt b 32 (ar 32 g).toList := by
  have h := hb.arRange (o := 32) (m := 32) (by omega)
  rwa [ar_ext duo1] at h
theorem eqg_tag : Tryd.prog.eqGuardType Tryd.prog.depth 27 = false := by kernel_rfl
set_option maxHeartbeats 800000 in
theorem runwrap_any (k f g : Nat → Nat) (hk : ∀ i, k i < 256) (hf : ∀ i, f i < 256) (s : ByteArray) (hs : s.size ≤ 100) (n : Nat) (hn : n < 18446744073709551616) (bt : Bool) (hbt : eqA 32 (tagB k s n f) g = bt) (w : World) :
    Calls Tryd.prog 12 #[.agg (ar 32 k), .string s, .int .u64 n, .agg (ar 64 (duo f g))] w fun e w' => e = .returned (.tuple #[.agg (ar 32 (if bt then xorF f (pad k s n) else fun _ => 0)), .int .i64 (if bt then 0 else 12)]) ∧ Below w.heap.size w w' := by
  have HK := hid hk
  have HF := hid hf
  have HN := hid hn
  have HS := hid hs
  have HB := hid hbt
  clear hk hf hn hs hbt
  go_enter Tryd.func12, Tryd.ntmps12
  go_upto_region 1 with (with_reducible apply alA tK)
  generalize hw3 : World.alloc (World.alloc (World.alloc w _) _) _ = w3
  have b0 := hid (show Blk w3 w.heap.size 23 (ar 32 k) by rw [← hw3]; exact ((Blk.new _ _ _).alloc _).alloc _)
  have b1 := hid (show Blk w3 (w.heap.size + 1) 29 (ar 64 (duo f g)) by rw [← hw3]; exact (Blk.top rfl (by simp)).alloc _)
  have b2 := hid (show Blk w3 (w.heap.size + 1 + 1) 23 (ar 32 fun _ => 0) by rw [← hw3]; exact Blk.top rfl (by simp))
  have hb := hid (show Below w.heap.size w w3 by rw [← hw3]; exact (((Below.refl _ _).alloc (Nat.le_refl _) _).alloc (by simp) _).alloc (by simp; omega) _)
  clear hw3
  refine wp_region_ex (S := wS [some (.agg (ar 32 k)), some (.string s), some (.int .u64 n), none, some (.pointer (some ⟨w.heap.size + 1, 0, none⟩)), some (.agg (ar 32 f)), none, some (.agg (ar 32 (tagB k s n f))), some (.pointer (some ⟨w.heap.size + 1, 32, none⟩)), some (.agg (ar 32 g))] 3 6) (D := wD 3 6 (HmM.dl (sub k (lab s wSeal n))) (rowK f)) (K := fun _ _ w w' => Below w.heap.size w w') (C := fun _ w' => Below w3.heap.size w3 w') 10 (by kernel_rfl) (by kernel_rfl) (by kernel_rfl)
    _ (wS_ok _ _ _) (fun i j vs w w' _ _ _ h hb => wD_below h hb) (fun j i vs v w hji _ h => wD_loc hji h) (Below.refl _ _).drew fun vs => ?_
  simp only [List.take_succ_cons, List.take_zero, List.drop_succ_cons, List.drop_zero]
  refine ⟨.inl ⟨rfl, fun dd w' hd hC hDs => ?_⟩, fun e => ?_⟩
  · exact gE_ldK tK rfl ((b0.out.below hC b0.out.lt).head) ⟨rfl, hC, Below.refl _ _, wD_none (by omega) (by omega)⟩
  have e' : vs 0 = _ := e
  rw [e']
  clear e e'
  simp only [Act.put, List.setIfInBounds_toArray, List.set_cons_succ, List.set_cons_zero]
  refine ⟨.inl ⟨rfl, fun dd w' hd hC hDs => ?_⟩, fun e => ?_⟩
  · go_simp
    first | exact ⟨rfl, Below.refl _ _, wD_none (by omega) (by omega)⟩ | exact ⟨rfl, hC, Below.refl _ _, wD_none (by omega) (by omega)⟩ | exact ⟨hC, Below.refl _ _, wD_none (by omega) (by omega)⟩
  have e' : vs 1 = _ := e
  rw [e']
  clear e e'
  simp only [Act.put, List.setIfInBounds_toArray, List.set_cons_succ, List.set_cons_zero]
  refine ⟨.inl ⟨rfl, fun dd w' hd hC hDs => ?_⟩, fun e => ?_⟩
  · go_simp
    first | exact ⟨rfl, Below.refl _ _, wD_none (by omega) (by omega)⟩ | exact ⟨rfl, hC, Below.refl _ _, wD_none (by omega) (by omega)⟩ | exact ⟨hC, Below.refl _ _, wD_none (by omega) (by omega)⟩
  have e' : vs 2 = _ := e
  rw [e']
  clear e e'
  simp only [Act.put, List.setIfInBounds_toArray, List.set_cons_succ, List.set_cons_zero]
  refine ⟨.inl ⟨rfl, fun dd w' hd hC hDs => ?_⟩, fun e => ?_⟩
  · go_simp
    refine (rsealkey_any k HK.out s HS.out n HN.out w').mono ?_
    rintro e w2 ⟨v, rfl, o2, h2⟩
    obtain ⟨A, cap, rfl, a2⟩ := o2.arg (HmM.dl_256 (sub_lt _ _))
    rw [HmM.dl_length] at a2 ⊢
    exact ⟨_, rfl, (show slN 32 _ from ⟨A, cap, rfl⟩), hC.trans (h2.mono hC.size), h2, ⟨fun _ => ⟨A, cap, updV_self _ _ _, a2⟩, fun e => absurd e (by decide)⟩⟩
  obtain ⟨A3, c3, e'⟩ : slN 32 (vs 3) := e
  rw [e']
  have E3 := hid e'
  clear e'
  simp only [Act.put, List.setIfInBounds_toArray, List.set_cons_succ, List.set_cons_zero]
  refine ⟨.inl ⟨rfl, fun dd w' hd hC hDs => ?_⟩, fun e => ?_⟩
  · go_simp
    first | exact ⟨rfl, Below.refl _ _, wD_none (by omega) (by omega)⟩ | exact ⟨rfl, hC, Below.refl _ _, wD_none (by omega) (by omega)⟩ | exact ⟨hC, Below.refl _ _, wD_none (by omega) (by omega)⟩
  have e' : vs 4 = _ := e
  rw [e']
  clear e e'
  simp only [Act.put, List.setIfInBounds_toArray, List.set_cons_succ, List.set_cons_zero]
  refine ⟨.inl ⟨rfl, fun dd w' hd hC hDs => ?_⟩, fun e => ?_⟩
  · exact gE_ldK tK rfl (duo_at0 (b1.out.below hC b1.out.lt)) ⟨rfl, hC, Below.refl _ _, wD_none (by omega) (by omega)⟩
  have e' : vs 5 = _ := e
  rw [e']
  clear e e'
  simp only [Act.put, List.setIfInBounds_toArray, List.set_cons_succ, List.set_cons_zero]
  refine ⟨.inl ⟨rfl, fun dd w' hd hC hDs => ?_⟩, fun e => ?_⟩
  · go_simp
    refine (rrow10_any f HF.out w').mono ?_
    rintro e w2 ⟨v, rfl, o2, h2⟩
    obtain ⟨A, cap, rfl, a2⟩ := o2.arg (rowK_256 HF.out)
    rw [rowK_length] at a2 ⊢
    exact ⟨_, rfl, (show slN 38 _ from ⟨A, cap, rfl⟩), hC.trans (h2.mono hC.size), h2, ⟨fun e => absurd e (by decide), fun _ => ⟨A, cap, updV_self _ _ _, a2⟩⟩⟩
  obtain ⟨A6, c6, e'⟩ : slN 38 (vs 6) := e
  rw [e']
  have E6 := hid e'
  clear e'
  simp only [Act.put, List.setIfInBounds_toArray, List.set_cons_succ, List.set_cons_zero]
  refine ⟨.inl ⟨rfl, fun dd w' hd hC hDs => ?_⟩, fun e => ?_⟩
  · obtain ⟨B4, k4, f4, a4⟩ := (hDs 3 (by kernel_rfl)).1 rfl
    obtain ⟨B6, k6, f6, a6⟩ := (hDs 6 (by kernel_rfl)).2 rfl
    rw [E3.out] at f4
    rw [E6.out] at f6
    cases f4
    cases f6
    go_simp
    refine (rof_any A3 (HmM.dl (sub k (lab s wSeal n))) 32 c3 a4.len (by omega) a4.none a4.b256 A6 (rowK f) 38 c6 a6.len (by omega) a6.none a6.b256 w' a4.byt a6.byt).mono ?_
    rintro e w4 ⟨rfl, h4⟩
    exact ⟨_, rfl, rfl, hC.trans (h4.mono hC.size), h4, wD_none (by omega) (by omega)⟩
  have e' : vs 7 = _ := e
  rw [e']
  clear e e'
  simp only [Act.put, List.setIfInBounds_toArray, List.set_cons_succ, List.set_cons_zero]
  refine ⟨.inl ⟨rfl, fun dd w' hd hC hDs => ?_⟩, fun e => ?_⟩
  · go_simp
    first | exact ⟨rfl, Below.refl _ _, wD_none (by omega) (by omega)⟩ | exact ⟨rfl, hC, Below.refl _ _, wD_none (by omega) (by omega)⟩ | exact ⟨hC, Below.refl _ _, wD_none (by omega) (by omega)⟩
  have e' : vs 8 = _ := e
  rw [e']
  clear e e'
  simp only [Act.put, List.setIfInBounds_toArray, List.set_cons_succ, List.set_cons_zero]
  refine ⟨.inl ⟨rfl, fun dd w' hd hC hDs => ?_⟩, fun e => ?_⟩
  · exact gE_ldK tT rfl (duo_at1 (b1.out.below hC b1.out.lt)) ⟨rfl, hC, Below.refl _ _, wD_none (by omega) (by omega)⟩
  have e' : vs 9 = _ := e
  rw [e']
  clear e e'
  simp only [Act.put, List.setIfInBounds_toArray, List.set_cons_succ, List.set_cons_zero]
  intro dd w' hall hC hDs
  have c0 := hid (b0.out.below hC b0.out.lt)
  have c1 := hid (b1.out.below hC b1.out.lt)
  have c2 := hid (b2.out.below hC b2.out.lt)
  have cb := hid (hb.out.trans (hC.mono hb.out.size))
  have gl := c2.out.lt
  clear b0 b1 b2 hb hC hDs hall E3 E6
  apply neU (!bt) Tryd.underlying27 eqg_tag
  · rfl
  · rfl
  · rw [HB.out]
  cases bt with
  | false =>
    go_wp2_with (first | (with_reducible apply bldZ (n := 32) (by kernel_rfl)) | ((with_reducible apply stA tK); rfl; rfl; exact c2.out))
    apply ret_art tK Tryd.results12
    · rfl
    · rfl
    · rfl
    · exact c2.out.setRow_same _
    exact ⟨rfl, below_setRow cb.out (by omega) _⟩
  | true =>
    go_wp2_with (first | ((with_reducible apply ldA tK); rfl; exact c0.out) | ((with_reducible apply ldAm tK); rfl; exact duo_at0 c1.out))
    refine (rmasked_any k f HK.out HF.out s HS.out n HN.out w').mono ?_
    rintro e w4 ⟨rfl, h4⟩
    obtain ⟨D, hD⟩ : ∃ D, D = xorF f (pad k s n) := ⟨_, rfl⟩
    have HD := hid hD
    rw [← hD]
    have d2 := c2.out.below h4 c2.out.lt
    have db := hid (cb.out.trans (h4.mono cb.out.size))
    clear c0 c1 c2 cb h4 hD
    go_wp2_with ((with_reducible apply stA tK); rfl; rfl; exact d2)
    apply ret_art tK Tryd.results12
    · rfl
    · rfl
    · rfl
    · exact d2.setRow_same _
    exact ⟨by rw [HD.out]; rfl, below_setRow db.out (by omega) _⟩
end BxP
end Go.Proofs.YtdfoehcdabmagaaDoor
set_option maxRecDepth 100000
namespace Go.Proofs.YtdfoehcdabmagaaDoor
open Go.ChangeShapes Go.WideShapes Go.ChangeAt Go.RowKit
attribute [local go_sem] Gives
set_option maxHeartbeats 400000 in
set_option maxRecDepth 100000 in
theorem rbytes_any (f : Nat → Nat) (hf : ∀ k, f k < 256) (w : World) :
    Calls Tryd.prog 32 #[.agg (tag f)] w fun e w' => ∃ v, e = .returned v ∧ Own 5 .u8 w' w.heap.size v (HmM.dl f) ∧ Below w.heap.size w w' := by
  have HF := hid hf
  clear hf
  go_enter Tryd.func32, Tryd.ntmps32
  go_upto_region 1 with fail
  generalize hw1 : World.alloc w _ = w1
  have b1 : Blk w1 w.heap.size 27 (tag f) := by rw [← hw1]; exact Blk.top rfl rfl
  have hb : Below w.heap.size w w1 := by rw [← hw1]; exact (Below.refl _ _).alloc (Nat.le_refl _) _
  clear hw1
  have B1 := hid b1
  have BEL := hid hb
  have hgl := b1.lt
  clear b1 hb
  go_wp2_with fail
  go_loopw [3, 4] (fun u v wr => ∃ (i : Nat) (vo : Value), i ≤ 32 ∧ v = .int .i64 i ∧ u = vo ∧ Hid (Own 5 .u8 wr w1.heap.size vo ((HmM.dl f).take i)) ∧ Hid (Below w1.heap.size w1 wr)) (fun _ v _ => 32 - (intOf v).toNat)
  case atStart => exact ⟨0, _, by omega, rfl, rfl, hid Own.nil, hid (Below.refl _ _)⟩
  case round =>
    obtain ⟨i, vo, hi, rfl, rfl, ho, hb⟩ := hrel
    have hzw := hb.out.size
    by_cases hlt : i < 32
    · have ti : (i : Int) < 32 := by omega
      have q1 := ((B1.out.below hb.out hgl).cell i).trans (get_tag hlt)
      have hst := dl_take f hlt
      have hlen : ((HmM.dl f).take i).length = i := by rw [List.length_take, HmM.dl_length]; omega
      have hx := HF.out i
      generalize f i = x at *
      have HST := hid hst
      have HLEN := hid hlen
      clear hst hlen
      go_wp2_with (at_builtin; (with_reducible apply wappN eltB); rfl; rfl; exact ho.out.alloc _; exact nums_one (x := x) (B := wr.heap.size + 1) rfl (Nat.lt_succ_self _); rfl; (rw [HLEN.out]; omega); (simp; omega); intro v' w4 o4 g4)
      have b4 := below_grown (hb.out.alloc hzw (.cells #[.int .u8 (x : Nat)] 5)) g4 ho.out (Nat.le_refl _) (Nat.le_refl _)
      go_roundw
      case rel => exact ⟨i + 1, v', by omega, by go_num, rfl, hid (by rw [HST.out]; exact o4), hid b4⟩
      case measure => simp [intOf] <;> omega
    · obtain rfl : i = 32 := by omega
      have o9 := ho.out
      rw [dl_full] at o9
      have hfin := hid (BEL.out.trans (hb.out.mono BEL.out.size))
      have O9 := hid (o9.lower BEL.out.size)
      clear o9 ho
      go_wp2_with fail
      go_ret
      exact ⟨_, rfl, O9.out, hfin.out⟩
end Go.Proofs.YtdfoehcdabmagaaDoor
set_option maxRecDepth 100000
namespace Go.Proofs.YtdfoehcdabmagaaDoor
open Go.ChangeShapes Go.WideShapes Go.ChangeAt Go.RowKit
open DvP (tK tT sub)
attribute [local go_sem] Gives GivesE
namespace BxP
set_option maxHeartbeats 400000 in
theorem rput_any (A : Option Addr) (l : List Nat) (n cap : Nat) (hn : n ≤ 10000) (f g : Nat → Nat) (hf : ∀ i, f i < 256) (hg : ∀ i, g i < 256) (w : World) (ha : Arg w A l n cap) :
    Calls Tryd.prog 17 #[.slice A n cap, .agg (ar 64 (duo f g))] w fun e w' => ∃ v, e = .returned v ∧ Own 5 .u8 w' w.heap.size v (l ++ HmM.dl f ++ HmM.dl g) ∧ Below w.heap.size w w' := by
  have HF := hid hf
  have HG := hid hg
  have HN := hid hn
  clear hf hg hn
  go_enter Tryd.func17, Tryd.ntmps17
  go_upto_region 1 with (with_reducible apply alA tBox)
  generalize hw1 : World.alloc w _ = w1
  have b1 := hid (show Blk w1 w.heap.size 29 (ar 64 (duo f g)) by rw [← hw1]; exact Blk.top rfl rfl)
  have hb := hid (show Below w.heap.size w w1 by rw [← hw1]; exact (Below.refl _ _).alloc (Nat.le_refl _) _)
  have HA := hid (ha.on hb.out)
  clear hw1 ha
  go_wp2_with (first
    | ((with_reducible apply ldAm tK); rfl; exact duo_at0 (b1.out.below (below_grown (Below.refl w1.heap.size w1) g2 (Own.nil (e := 5) (k := .u8) (w := w1) (B := w1.heap.size)) (Nat.le_refl _) (Nat.le_refl _)) b1.out.lt))
    | (at_builtin; (with_reducible apply wappN_any eltB); rfl; rfl; exact HA.out.none; exact Own.nil (B := w1.heap.size); exact HA.out.byt.nums; exact HA.out.len; (rw [List.length_nil]; have := HN.out; omega); exact Nat.le_refl _; intro v2 w2 o2 g2))
  have B2 : Below w1.heap.size w1 w2 := below_grown (Below.refl w1.heap.size w1) g2 (Own.nil (e := 5) (k := .u8) (w := w1) (B := w1.heap.size)) (Nat.le_refl _) (Nat.le_refl _)
  have O2 := hid o2
  rw [List.nil_append] at O2
  have HL := hid HA.out.len
  have c1 := hid (b1.out.below B2 b1.out.lt)
  have B2 := hid B2
  have hl1 := b1.out.lt
  clear g2 o2 b1 HA
  refine (rkbytes_any f HF.out w2).mono ?_
  rintro e w3 ⟨v3, rfl, o3, h3⟩
  obtain ⟨A3, cap3, rfl, a3⟩ := o3.arg (HmM.dl_256 HF.out)
  have O2' := hid (O2.out.below h3)
  have d1 := hid (c1.out.below h3 c1.out.lt)
  have B3 := hid (B2.out.trans (h3.mono B2.out.size))
  have H3 := hid a3
  clear o3 h3 a3 O2 c1 B2
  go_wp2_with (first
    | ((with_reducible apply ldAm tT); rfl; exact duo_at1 (d1.out.below (below_grown (Below.refl w1.heap.size w3) g4 O2'.out (Nat.le_refl _) B3.out.size) hl1))
    | (at_builtin; (with_reducible apply wappN_any eltB); rfl; rfl; exact H3.out.none; exact O2'.out; exact H3.out.byt.nums; exact H3.out.len; (rw [HL.out, HmM.dl_length]; have := HN.out; omega); exact B3.out.size; intro v4 w4 o4 g4))
  have B4 := below_grown B3.out g4 O2'.out (Nat.le_refl _) (Nat.le_refl _)
  have O4 := hid o4
  have B4 := hid B4
  clear g4 o4 d1 H3 O2' B3
  refine (rbytes_any g HG.out w4).mono ?_
  rintro e w5 ⟨v5, rfl, o5, h5⟩
  obtain ⟨A5, cap5, rfl, a5⟩ := o5.arg (HmM.dl_256 HG.out)
  have O5 := hid (O4.out.below h5)
  have B5 := hid (B4.out.trans (h5.mono B4.out.size))
  have H5 := hid a5
  clear o5 h5 a5 O4 B4
  go_wp2_with (at_builtin; (with_reducible apply wappN_any eltB); rfl; rfl; exact H5.out.none; exact O5.out; exact H5.out.byt.nums; exact H5.out.len; (rw [List.length_append, HL.out, HmM.dl_length, HmM.dl_length]; have := HN.out; omega); exact B5.out.size; intro v6 w6 o6 g6)
  have B6 := below_grown B5.out g6 O5.out (Nat.le_refl _) (Nat.le_refl _)
  have O6 := hid (o6.lower hb.out.size)
  have B6 := hid (hb.out.trans (B6.mono hb.out.size))
  clear g6 o6 H5 O5 B5
  go_wp2_with fail
  go_ret
  exact ⟨_, rfl, O6.out, B6.out⟩
end BxP
end Go.Proofs.YtdfoehcdabmagaaDoor
set_option maxRecDepth 100000
namespace Go.Proofs.YtdfoehcdabmagaaDoor
open Go.ChangeShapes Go.WideShapes Go.ChangeAt Go.RowKit
theorem und_byts : Tryd.prog.underlying 39 = some (.slice (Tryd.prog.elem 39)) := by kernel_rfl
theorem size_byts (w : World) : (sizeOf (Tryd.prog.elem 39)).run Tryd.prog w = .ok 1 w := by
  have h : (Tryd.prog.info? (Tryd.prog.elem 39)).map (·.size) = some 1 := by kernel_rfl
  cases hi : Tryd.prog.info? (Tryd.prog.elem 39) with
  | none => rw [hi] at h; cases h
  | some i =>
    rw [hi] at h
    simp only [Option.map_some, Option.some.injEq] at h
    simp [sizeOf, typeInfo, hi, h]
theorem Byt.dropIf {w : World} {B : Nat} {A : Option Addr} {l : List Nat} (h : Byt w B A l) (cap W : Nat) (hc : l.length ≤ cap) : Byt w B (if cap = W then A else Option.map (fun x => x.add W) A) (l.drop W) := fun hn => by
  have hn' := hn
  rw [List.length_drop] at hn
  obtain ⟨b, o, rfl, hl, hr⟩ := h (by omega)
  rw [if_neg (by omega)]
  have e : Option.map (fun x => Addr.add x W) (some ⟨b, o, Option.none⟩) = some ⟨b, o + W, Option.none⟩ := by rw [Option.map_some, Addr.add_mid]
  rw [e]
  exact Byt.drop (l := l) (fun _ => ⟨b, o, rfl, hl, hr⟩) W hn'
theorem run_sl {w : World} {A : Option Addr} {l : List Nat} {n cap i j : Nat} (h : Arg w A l n cap) (hij : i ≤ j) (hj : j ≤ n) :
    ∃ A', (Instr.sliceAt 39 (.slice A n cap) (some (.int .i64 i)) (some (.int .i64 j)) none).run Tryd.prog w = .ok (.slice A' (j - i) (cap - i)) w ∧ Arg w A' ((l.drop i).take (j - i)) (j - i) (cap - i) := by
  have hc := h.cap
  have hm := h.max
  refine ⟨if cap = i then A else A.map (·.add (i * 1)), ?_, ?_⟩
  · rw [run_sliceAt_slice w 39 _ _ _ _ und_byts, run_slice_lh w 39 A n cap und_byts .i64 .i64 i j (by omega) (by omega) (by omega), size_byts]
    simp only [Result.andThen, sliced, Int.toNat_natCast]
  · rw [Nat.mul_one]
    refine ⟨by rw [List.length_take, List.length_drop, h.len]; omega, by omega, by omega, (h.b256.drop i).take _, fun e => ?_, ((h.byt.dropIf cap i (by rw [h.len]; exact hc))).take _⟩
    by_cases hi : cap = i
    · exact ⟨by omega, by omega⟩
    · rw [if_neg hi] at e
      cases A with
      | none => have := h.none rfl; exact ⟨by omega, by omega⟩
      | some a => cases e
theorem wsl {ops : Array Oper} {Q : Exit → Act → World → Prop} {a : Act} {w : World} {rest : List Oper} {dst : Option Tmp} {ty : TypeId} {pos : String} {after : Array Edge} {x y z : Operand} {A : Option Addr} {l : List Nat} {n cap i j : Nat}
    (hx : a.eval x = .slice A n cap) (hy : a.eval y = .int .i64 i) (hz : a.eval z = .int .i64 j) (h : Arg w A l n cap) (hij : i ≤ j) (hj : j ≤ n)
    (hk : ∀ A', Arg w A' ((l.drop i).take (j - i)) (j - i) (cap - i) → wpList Tryd.prog ops Q rest (a.put dst (.slice A' (j - i) (cap - i))) w) :
    wpList Tryd.prog ops Q (⟨dst, .slice 39 x (some y) (some z) none, ty, pos, after, none⟩ :: rest) a w := by
  obtain ⟨A', hr, ha⟩ := run_sl h hij hj
  refine wpList_plain rfl fun K hK => ?_
  unfold Oper.wp execOp
  simp only [Sem.run_bind, Option.map_some, Option.map_none, Sem.run_pure, hx, hy, hz, hr, Result.andThen_ok]
  exact hK _ _ (hk A' ha)
theorem wslN {ops : Array Oper} {Q : Exit → Act → World → Prop} {a : Act} {w : World} {rest : List Oper} {dst : Option Tmp} {ty : TypeId} {pos : String} {after : Array Edge} {x y z : Operand} {A : Option Addr} {l : List Nat} {n cap i j N : Nat}
    (hx : a.eval x = .slice A n cap) (hy : a.eval y = .int .i64 i) (hz : a.eval z = .int .i64 j) (h : Arg w A l n cap) (hij : j = i + N) (hj : j ≤ n)
    (hk : ∀ A', Arg w A' ((l.drop i).take N) N (cap - i) → wpList Tryd.prog ops Q rest (a.put dst (.slice A' N (cap - i))) w) :
    wpList Tryd.prog ops Q (⟨dst, .slice 39 x (some y) (some z) none, ty, pos, after, none⟩ :: rest) a w := by
  subst hij
  refine wsl hx hy hz h (Nat.le_add_right _ _) hj fun A' ha => ?_
  rw [Nat.add_sub_cancel_left] at ha ⊢
  exact hk A' ha
end Go.Proofs.YtdfoehcdabmagaaDoor
set_option maxRecDepth 100000
namespace Go.Proofs.YtdfoehcdabmagaaDoor
open Go.ChangeShapes Go.WideShapes Go.ChangeAt Go.RowKit
open DvP (tK tT sub)
attribute [local go_sem] Gives GivesE
theorem run_slt {w : World} {A : Option Addr} {l : List Nat} {n cap i : Nat} (h : Arg w A l n cap) (hi : i ≤ n) :
    ∃ A', (Instr.sliceAt 39 (.slice A n cap) (some (.int .i64 i)) none none).run Tryd.prog w = .ok (.slice A' (n - i) (cap - i)) w ∧ Arg w A' (l.drop i) (n - i) (cap - i) := by
  have hc := h.cap
  have hm := h.max
  refine ⟨if cap = i then A else A.map (·.add (i * 1)), ?_, ?_⟩
  · rw [run_sliceAt_slice w 39 _ _ _ _ und_byts, run_slice_l w 39 A n cap und_byts .i64 i (by omega) (by omega), size_byts]
    simp only [Result.andThen, sliced, Int.toNat_natCast]
  · rw [Nat.mul_one]
    refine ⟨by rw [List.length_drop, h.len], by omega, by omega, h.b256.drop i, fun e => ?_, h.byt.dropIf cap i (by rw [h.len]; exact hc)⟩
    by_cases hi : cap = i
    · exact ⟨by omega, by omega⟩
    · rw [if_neg hi] at e
      cases A with
      | none => have := h.none rfl; exact ⟨by omega, by omega⟩
      | some a => cases e
section
variable {ops : Array Oper} {Q : Exit → Act → World → Prop} {a : Act} {w : World} {rest : List Oper} {dst : Option Tmp} {ty : TypeId} {pos : String} {after : Array Edge} {x y : Operand} {A : Option Addr} {l : List Nat} {n cap i : Nat} {T : TypeId} {f : Nat → Nat}
theorem wslt (hx : a.eval x = .slice A n cap) (hy : a.eval y = .int .i64 i) (h : Arg w A l n cap) (hi : i ≤ n)
    (hk : ∀ A', Arg w A' (l.drop i) (n - i) (cap - i) → wpList Tryd.prog ops Q rest (a.put dst (.slice A' (n - i) (cap - i))) w) :
    wpList Tryd.prog ops Q (⟨dst, .slice 39 x (some y) none none, ty, pos, after, none⟩ :: rest) a w := by
  obtain ⟨A', hr, ha⟩ := run_slt h hi
  refine wpList_plain rfl fun K hK => ?_
  unfold Oper.wp execOp
  simp only [Sem.run_bind, Option.map_some, Option.map_none, Sem.run_pure, hx, hy, hr, Result.andThen_ok]
  exact hK _ _ (hk A' ha)
theorem ret_artt {t : TypeId} {h : Nat} {fn : Func} {R : Ending → World → Prop} {p q r : Tmp} {u v : Value} (hT : ArT T n) (hr : fn.results = #[.cell p T, .tmp q, .tmp r]) (hp : a.tmps.getD p undef = .pointer (some ⟨h, 0, none⟩)) (hq : a.tmps.getD q undef = u) (hs : a.tmps.getD r undef = v)
    (hdf : a.defers = []) (hb : Blk w h t (ar n f)) (hR : R (.returned (.tuple #[.agg (ar n f), u, v])) w) : bodyPost Tryd.prog fn R .ret a w := by
  refine bodyPost_ret ?_ hdf hR
  have hp' : a.tmps[p]?.getD undef = .pointer (some ⟨h, 0, none⟩) := by simpa using hp
  have hq' : a.tmps[q]?.getD undef = u := by simpa using hq
  have hs' : a.tmps[r]?.getD undef = v := by simpa using hs
  simp [results, hr, hp', hq', hs', asAddr, run_ar_var hT hb]
end
namespace BxP
/-- Cells filled two at a time, i of each half. -/
def half (F : Nat → Nat) (i j : Nat) : Nat := if j % 32 < i then F j else 0
theorem half_zero (F : Nat → Nat) : ar 64 (half F 0) = ar 64 fun _ => 0 := ar_ext fun j _ => by unfold half; rw [if_neg (by omega)]
theorem half_all (F : Nat → Nat) : ar 64 (half F 32) = ar 64 F := ar_ext fun j _ => by unfold half; rw [if_pos (by omega)]
theorem half_step {F : Nat → Nat} {i : Nat} (hi : i < 32) : ((ar 64 (half F i)).setIfInBounds i (.int .u8 (F i : Nat))).setIfInBounds (32 + i) (.int .u8 (F (32 + i) : Nat)) = ar 64 (half F (i + 1)) := by
  rw [ar_set, ar_set]
  refine ar_ext fun j hj => ?_
  unfold half
  by_cases h1 : j = 32 + i
  · rw [if_pos h1, if_pos (by omega), h1]
  · rw [if_neg h1]
    by_cases h2 : j = i
    · rw [if_pos h2, if_pos (by omega), h2]
    · rw [if_neg h2]
      by_cases h3 : j % 32 < i
      · rw [if_pos h3, if_pos (by omega)]
      · rw [if_neg h3, if_neg (by omega)]
set_option maxHeartbeats 400000 in
theorem rget_few (A : Option Addr) (n cap : Nat) (hn : n < 64) (w : World) :
    Calls Tryd.prog 16 #[.slice A n cap] w fun e w' => e = .returned (.tuple #[.agg (ar 64 fun _ => 0), .slice none 0 0, .int .i64 4]) ∧ Below w.heap.size w w' := by
  have tn : (n : Int) < 64 := by omega
  go_enter Tryd.func16, Tryd.ntmps16
  go_upto_region 1 with (with_reducible apply alA tBox)
  generalize hw1 : World.alloc w _ = w1
  have b1 : Blk w1 w.heap.size 29 (ar 64 fun _ => 0) := by rw [← hw1]; exact Blk.top rfl rfl
  have hb : Below w.heap.size w w1 := by rw [← hw1]; exact (Below.refl _ _).alloc (Nat.le_refl _) _
  clear hw1
  go_wp2_with (first | (with_reducible apply bldZ (n := 64) (by kernel_rfl)) | ((with_reducible apply stA tBox); rfl; rfl; exact b1))
  apply ret_artt tBox Tryd.results16
  · rfl
  · rfl
  · rfl
  · rfl
  · exact b1.setRow_same _
  exact ⟨rfl, below_setRow hb (by omega) _⟩
set_option maxHeartbeats 400000 in
theorem rget_any (A : Option Addr) (l : List Nat) (n cap : Nat) (hn : 64 ≤ n) (hm : n ≤ 100000) (w : World) (ha : Arg w A l n cap) :
    Calls Tryd.prog 16 #[.slice A n cap] w fun e w' => ∃ v, e = .returned (.tuple #[.agg (ar 64 fun j => l.getD j 0), v, .int .i64 0]) ∧ Own 5 .u8 w' w.heap.size v (l.drop 64) ∧ Below w.heap.size w w' := by
  have tn : decide ((n : Int) < 64) = false := by simp; omega
  have HM := hid hm
  have HN := hid hn
  clear hm
  go_enter Tryd.func16, Tryd.ntmps16
  go_upto_region 1 with (with_reducible apply alA tBox)
  generalize hw1 : World.alloc w _ = w1
  have b1 := hid (show Blk w1 w.heap.size 29 (ar 64 fun _ => 0) by rw [← hw1]; exact Blk.top rfl rfl)
  have hb := hid (show Below w.heap.size w w1 by rw [← hw1]; exact (Below.refl _ _).alloc (Nat.le_refl _) _)
  have hs1 : w1.heap.size = w.heap.size + 1 := by rw [← hw1]; simp
  have HA := hid (ha.on hb.out)
  clear hw1 ha
  go_upto_region 4 with (with_reducible apply alA tBox)
  generalize hw2 : World.alloc w1 _ = w2
  obtain ⟨gx, hgx⟩ : ∃ gx, gx = w1.heap.size := ⟨_, rfl⟩
  have bx := show Blk w2 gx 29 (ar 64 fun _ => 0) by rw [← hw2, hgx]; exact Blk.top rfl rfl
  have hb2 : Below w1.heap.size w1 w2 := by rw [← hw2]; exact (Below.refl _ _).alloc (Nat.le_refl _) _
  rw [← hgx]
  rw [← hgx] at hs1
  have HGX := hid hgx
  have HS1 := hid hs1
  clear hw2 hgx hs1
  obtain ⟨F, hF⟩ : ∃ F : Nat → Nat, F = fun j => l.getD j 0 := ⟨_, rfl⟩
  have HF := hid hF
  clear hF
  obtain ⟨b, o, rfl, hbl, hr⟩ := HA.out.byt (by rw [HA.out.len]; omega)
  have HR := hid hr
  clear hr
  go_wp2_with fail
  go_loopw [6] (fun u wr => ∃ i : Nat, i ≤ 32 ∧ u = .int .i64 i ∧ Blk wr gx 29 (ar 64 (half F i)) ∧ Below w1.heap.size w1 wr) (fun u _ => 32 - (intOf u).toNat)
  case atStart => exact ⟨0, by omega, rfl, by rw [half_zero]; exact bx, hb2⟩
  case round =>
    clear bx hb2
    obtain ⟨i, hi, rfl, bx, hB⟩ := hrel
    by_cases hlt : i < 32
    · have ti : (i : Int) < 32 := by omega
      have t1 : (i : Int) < (n : Int) := by omega
      have t2 : (32 + i : Int) < (n : Int) := by omega
      have c1 := (hB.cell (p := ⟨b, o + i, none⟩) hbl).trans (HR.out i (by rw [HA.out.len]; omega))
      have c2 := (hB.cell (p := ⟨b, o + (32 + i), none⟩) hbl).trans (HR.out (32 + i) (by rw [HA.out.len]; omega))
      have c3 := bx.frozen i
      have c4 := bx.cell i
      rw [get_ar (by omega)] at c4
      have d1 := bx.setCell_same i (.int .u8 (F i : Nat))
      have c5 := d1.cell (32 + i)
      rw [ar_set, get_ar (by omega)] at c5
      have c6 := d1.frozen (32 + i)
      rw [show l.getD i 0 = F i by rw [HF.out]] at c1
      rw [show l.getD (32 + i) 0 = F (32 + i) by rw [HF.out]] at c2
      have D1 := hid d1
      have BX := hid bx
      clear d1 bx
      go_wp2_with fail
      go_roundw
      case rel => exact ⟨i + 1, by omega, by go_num, by rw [← half_step hlt]; exact D1.out.setCell_same (32 + i) _, (hB.setCell (by show w1.heap.size ≤ gx; rw [HGX.out]; exact Nat.le_refl _) _).setCell (by show w1.heap.size ≤ gx; rw [HGX.out]; exact Nat.le_refl _) _⟩
      case measure => simp [intOf]; omega
    · obtain rfl : i = 32 := by omega
      rw [half_all] at bx
      have ti : decide (((32 : Nat) : Int) < 32) = false := by decide
      have c1 := hid (b1.out.below hB (by have h1 := HS1.out; have h2 := HGX.out; omega))
      have BX := hid bx
      have HA2 := hid (HA.out.on hB)
      have HB := hid hB
      clear bx b1 hB
      go_wp2_with (first
        | ((with_reducible apply wslt (i := 64)); rfl; rfl; exact HA2.out; exact HN.out; intro A5 a5)
        | ((with_reducible apply ldA tBox); rfl; exact BX.out.below (below_grown (Below.refl wr.heap.size wr) g6 (Own.nil (e := 5) (k := .u8) (w := wr) (B := wr.heap.size)) (Nat.le_refl _) (Nat.le_refl _)) BX.out.lt)
        | ((with_reducible apply stA tBox); rfl; rfl; exact c1.out.below (below_grown (Below.refl wr.heap.size wr) g6 (Own.nil (e := 5) (k := .u8) (w := wr) (B := wr.heap.size)) (Nat.le_refl _) (Nat.le_refl _)) c1.out.lt)
        | (at_builtin; (with_reducible apply wappN_any eltB); rfl; rfl; exact a5.none; exact Own.nil (B := wr.heap.size); exact a5.byt.nums; exact a5.len; (rw [List.length_nil]; have := HM.out; omega); exact Nat.le_refl _; intro v6 w6 o6 g6))
      have B6 := below_grown (Below.refl wr.heap.size wr) g6 (Own.nil (e := 5) (k := .u8) (w := wr) (B := wr.heap.size)) (Nat.le_refl _) (Nat.le_refl _)
      rw [List.nil_append] at o6
      have c6 := c1.out.below B6 c1.out.lt
      have hw6 : w.heap.size ≤ wr.heap.size := Nat.le_of_lt c1.out.lt
      apply ret_artt tBox Tryd.results16
      · rfl
      · rfl
      · rfl
      · rfl
      · exact c6.setRow_same _
      refine ⟨v6, by rw [HF.out]; rfl, ?_, ?_⟩
      · rcases o6.form with ⟨rfl, h0⟩ | ⟨gq, cq, rfl, hq, _⟩
        · rw [h0]; exact Own.nil
        · exact (o6.other (g' := w.heap.size) (by have := c1.out.lt; omega)).lower hw6
      · exact below_setRow ((hb.out.trans (HB.out.mono hb.out.size)).trans (B6.mono hw6)) (Nat.le_refl _) _
end BxP
end Go.Proofs.YtdfoehcdabmagaaDoor
set_option maxRecDepth 100000
namespace Go.Proofs.YtdfoehcdabmagaaDoor
open Go.ChangeShapes Go.WideShapes Go.ChangeAt Go.RowKit
namespace BxP
set_option maxHeartbeats 400000 in
theorem ldigits_any (n : Nat) (hn : n < 18446744073709551616) (w : World) :
    Calls Tryd.prog 19 #[.int .u64 n] w fun e w' => e = .returned (.string (str (dec n))) ∧ Below w.heap.size w w' := by
  go_enter Tryd.func19, Tryd.ntmps19
  go_wp2_with fail
  go_loopw [0, 3] (fun u v wr => ∃ (m : Nat) (l : List Nat), m ≤ n ∧ u = .int .u64 m ∧ v = .string (str l) ∧ Hid (dec n = dec m ++ l) ∧ Hid (Below w.heap.size w wr)) (fun u _ _ => (intOf u).toNat)
  case atStart => exact ⟨n, [], Nat.le_refl _, rfl, rfl, hid (by rw [List.append_nil]), hid (Below.refl _ _)⟩
  case round =>
    obtain ⟨m, l, hm, rfl, rfl, hd, hb⟩ := hrel
    have hc := conv_one wr (x := 48 + m % 10) (v := .int .u8 (48 + (m : Int) % 10)) (by omega) (by simp)
    have hle : l.length ≤ 20 := by have := congrArg List.length hd.out; rw [List.length_append] at this; have := dec_20 hn; omega
    have hz : ¬ 9223372036854775807 < (str [48 + m % 10]).size + (str l).size := by rw [str_size, str_size]; simp; omega
    by_cases hlt : 10 ≤ m
    · have tm : decide ((m : Int) / 10 = 0) = false := by simp; omega
      have tm2 : ¬ ((m : Int) / 10 = 0) := by omega
      go_wp2_with fail
      rw [str_append]
      go_wp2_with fail
      go_roundw
      case rel => exact ⟨m / 10, (48 + m % 10) :: l, by omega, by go_num, rfl, hid (by rw [hd.out, dec_more (by omega), List.append_assoc]; rfl), hid (hb.out.alloc hb.out.size _)⟩
      case measure => simp [intOf]; omega
    · have tm : (m : Int) / 10 = 0 := by omega
      go_wp2_with fail
      rw [str_append]
      go_wp2_with fail
      go_ret
      exact ⟨by rw [hd.out, dec_small (by omega), Nat.mod_eq_of_lt (by omega)]; rfl, hb.out.alloc hb.out.size _⟩
end BxP
end Go.Proofs.YtdfoehcdabmagaaDoor
set_option maxRecDepth 100000
namespace Go.Proofs.YtdfoehcdabmagaaDoor
open Go.ChangeShapes Go.WideShapes Go.ChangeAt Go.RowKit
namespace BxP
def byC (k : Nat → Nat) (s : ByteArray) (n : Nat) (j : Nat) : Value := if j < 32 then .int .u8 (k j : Nat) else if j < 33 then .string s else .int .u64 (n : Nat)
/-- A wrapping key, a label, a number: 34 cells. -/
def byV (k : Nat → Nat) (s : ByteArray) (n : Nat) : Array Value := row 34 (byC k s n)
section
variable {w : World} {g n : Nat} {k : Nat → Nat} {s : ByteArray} {ty : TypeId}
theorem by_key (h : Blk w g ty (byV k s n)) : w.rangeAt g 0 (ar 32 k).toList := fun j v hv => by
  obtain ⟨hj, rfl⟩ := ar_list_get hv
  rw [h.cell, byV, get_row_lt (by omega), Nat.zero_add]
  unfold byC
  rw [if_pos hj]
theorem by_label (h : Blk w g ty (byV k s n)) : w.cell? ⟨g, 32, none⟩ = some (.string s) := by
  rw [h.cell, byV, get_row_lt (by omega)]; rfl
theorem by_num (h : Blk w g ty (byV k s n)) : w.cell? ⟨g, 33, none⟩ = some (.int .u64 n) := by
  rw [h.cell, byV, get_row_lt (by omega)]; rfl
end
/-- A text cut to 100 bytes. -/
def cut100 (s : ByteArray) : ByteArray := s.extract 0 (min s.size 100)
theorem cut100_size (s : ByteArray) : (cut100 s).size ≤ 100 := by unfold cut100; rw [ByteArray.size_extract]; omega
set_option maxHeartbeats 400000 in
theorem label_any (k : Nat → Nat) (s : ByteArray) (n : Nat) (w : World) :
    Calls Tryd.prog 9 #[.agg (byV k s n)] w fun e w' => e = .returned (.string (cut100 s)) ∧ Below w.heap.size w w' := by
  go_enter Tryd.func9, Tryd.ntmps9
  go_upto_region 1 with fail
  generalize hw1 : World.alloc w _ = w1
  have b1 : Blk w1 w.heap.size 26 (byV k s n) := by rw [← hw1]; exact Blk.top rfl rfl
  have hb : Below w.heap.size w w1 := by rw [← hw1]; exact (Below.refl _ _).alloc (Nat.le_refl _) _
  clear hw1
  have c1 := by_label b1
  have HB := hid hb
  clear b1 hb
  go_wp2_with fail
  all_goals go_ret
  all_goals refine ⟨?_, HB.out⟩
  all_goals first
    | (unfold cut100; rw [Nat.min_eq_right (by omega)]; rfl)
    | (unfold cut100; rw [Nat.min_eq_left (by omega), ByteArray.extract_zero_size]; rfl)
    | (show Ending.returned (Value.string (s.extract 0 (min (s.size : Int) 100).toNat)) = _; unfold cut100; rw [show (min (s.size : Int) 100).toNat = min s.size 100 by omega])
end BxP
end Go.Proofs.YtdfoehcdabmagaaDoor
set_option maxRecDepth 100000
namespace Go.Proofs.YtdfoehcdabmagaaDoor
open Go.ChangeShapes Go.WideShapes Go.ChangeAt Go.RowKit Go.Deep
section
variable {H : Type} {enc : TypeId × Value → H} {w : World} {base : Nat} {spare : Nat → Bool} {held : Bool}
theorem trod_ar {T : TypeId} {n : Nat} (hT : Tryd.prog.underlying T = some (.array n 5)) (hc : Tryd.prog.cellsOf T = n) {fuel : Nat} {cs : List Value} {x : DataW H × List MemPlace} (h : DataW.trod enc Tryd.prog w base spare held fuel T cs = some x) : ∃ f : Nat → Nat, (∀ k, f k < 256) ∧ cs = (ar n f).toList := by
  obtain ⟨xs, m, rfl, rfl, hlen, hxl, hx⟩ := DataW.trod_array hT h
  rw [hc] at hlen
  have hk : ∀ k, k < n → ∃ n : Nat, n < 256 ∧ cs[k]? = some (.int .u8 n) := fun k hk => by
    have h1 := hx k hk
    rw [cells_u8, Nat.mul_one, List.getElem?_eq_getElem (by omega)] at h1
    obtain ⟨n, e1, e2, wf⟩ := DataW.trod_int Tryd.underlying5 h1
    obtain ⟨n, rfl, hn⟩ := u8_wf wf
    refine ⟨n, hn, ?_⟩
    have : ((cs.drop k).take 1)[0]? = some (.int .u8 n) := by rw [e1]; rfl
    rw [List.getElem?_take_of_lt (by omega), List.getElem?_drop] at this
    exact this
  obtain ⟨f, hf⟩ := choose_lt hk
  refine ⟨fun k => if k < n then f k else 0, fun k => ?_, ?_⟩
  · by_cases h : k < n
    · simp only [h, if_true]; exact (hf k h).1
    · simp [h]
  · apply List.ext_getElem?
    intro k
    have e : (ar n fun k => if k < n then f k else 0).toList[k]? = if k < n then some (.int .u8 ((if k < n then f k else 0 : Nat) : Int)) else none := by
      rw [Array.getElem?_toList]
      exact get_row k
    rw [e]
    by_cases h : k < n
    · rw [if_pos h, if_pos h]; exact (hf k h).2
    · rw [if_neg h, List.getElem?_eq_none (by omega)]
set_option maxRecDepth 100000 in
theorem open_ar {T : TypeId} {n : Nat} (hT : Tryd.prog.underlying T = some (.array n 5)) (hc : Tryd.prog.cellsOf T = n) {r : Reach} {b0 : Nat} {v : Value} {d : DataW H} {p : List MemPlace} (hv : Value.okWide Tryd.prog w r b0 T v) (h : DataW.Trod enc Tryd.prog w base spare held T v d p) :
    ∃ f : Nat → Nat, (∀ k, f k < 256) ∧ v = .agg (ar n f) := by
  have hv' : ∃ cs, v = .agg cs := by
    simp only [Value.okWide, hT] at hv
    obtain ⟨cs, h1, _⟩ := hv
    exact ⟨cs, h1⟩
  obtain ⟨cs, rfl⟩ := hv'
  obtain ⟨fuel, hf⟩ := h
  obtain ⟨f, h1, h2⟩ := trod_ar hT hc hf
  refine ⟨f, h1, ?_⟩
  have : cs = ar n f := by
    apply Array.ext'
    exact h2
  rw [this]
end
end Go.Proofs.YtdfoehcdabmagaaDoor
set_option maxRecDepth 100000
namespace Go.Proofs.YtdfoehcdabmagaaDoor
open Go.ChangeShapes Go.WideShapes Go.ChangeAt Go.RowKit Go.Deep
namespace BxP
theorem uKey : Tryd.prog.underlying 23 = some (.array 32 5) := Tryd.underlying23
theorem cells_key : Tryd.prog.cellsOf 23 = 32 := by kernel_rfl
theorem uTag : Tryd.prog.underlying 27 = some (.array 32 5) := Tryd.underlying27
theorem cells_tag : Tryd.prog.cellsOf 27 = 32 := by kernel_rfl
theorem cells_box : Tryd.prog.cellsOf 29 = 64 := by kernel_rfl
theorem cells_by : Tryd.prog.cellsOf 26 = 34 := by kernel_rfl
theorem cells_n64 : Tryd.prog.cellsOf 24 = 1 := by kernel_rfl
theorem cells_str : Tryd.prog.cellsOf 9 = 1 := by kernel_rfl
theorem n64_wf {a : Int} (h : (Lit.int .u64 a).wf = true) : ∃ n : Nat, a = n ∧ n < 18446744073709551616 := by
  simp [Lit.wf, IntKind.min, IntKind.max, IntKind.bits, IntKind.signed] at h
  exact ⟨a.toNat, by omega, by omega⟩
section
variable {H : Type} {enc : TypeId × Value → H} {w : World} {base : Nat} {spare : Nat → Bool} {held : Bool}
theorem list_at {l : List Value} {o m : Nat} {f : Nat → Nat} (h : (l.drop o).take m = (ar m f).toList) {j : Nat} (hj : j < m) : l[o + j]? = some (.int .u8 (f j : Nat)) := by
  have h1 : ((l.drop o).take m)[j]? = some (.int .u8 (f j : Nat)) := by rw [h, Array.getElem?_toList, get_ar hj]
  rwa [List.getElem?_take_of_lt hj, List.getElem?_drop] at h1
theorem list_one {l : List Value} {o : Nat} {v : Value} (h : (l.drop o).take 1 = [v]) : l[o]? = some v := by
  have h1 : ((l.drop o).take 1)[0]? = some v := by rw [h]; rfl
  rwa [List.getElem?_take_of_lt (by omega), List.getElem?_drop] at h1
set_option maxRecDepth 100000 in
theorem open_by {r : Reach} {b0 : Nat} {v : Value} {d : DataW H} {p : List MemPlace} (hv : Value.okWide Tryd.prog w r b0 26 v) (h : DataW.Trod enc Tryd.prog w base spare held 26 v d p) :
    ∃ (k : Nat → Nat) (s : ByteArray) (n : Nat), (∀ i, k i < 256) ∧ n < 18446744073709551616 ∧ v = .agg (byV k s n) := by
  obtain ⟨cs, rfl, hsz⟩ := okWide_struct Tryd.underlying26 hv
  rw [cells_by] at hsz
  obtain ⟨fuel, hf⟩ := h
  obtain ⟨y0, y1, y2, m, _, _, h0, h1, h2⟩ := trod_struct3 Tryd.underlying26 hf
  rw [cells_key] at h0
  rw [cells_str] at h1
  rw [cells_n64] at h2
  obtain ⟨k, hk, e0⟩ := trod_ar uKey cells_key h0
  obtain ⟨s, e1, _, _⟩ := DataW.trod_string Tryd.underlying9 h1
  obtain ⟨b, e2, _, w1⟩ := DataW.trod_int Tryd.underlying24 h2
  obtain ⟨n, rfl, hn⟩ := n64_wf w1
  have e0' : (cs.toList.drop 0).take 32 = (ar 32 k).toList := e0
  have e1' : (cs.toList.drop 32).take 1 = [.string s] := e1
  have e2' : (cs.toList.drop 33).take 1 = [.int .u64 (n : Nat)] := e2
  refine ⟨k, s, n, hk, hn, ?_⟩
  have e : cs = byV k s n := by
    apply Array.ext_getElem?
    intro j
    rw [byV, get_row]
    by_cases hj : j < 34
    · rw [if_pos hj, ← Array.getElem?_toList]
      unfold byC
      by_cases a : j < 32
      · rw [if_pos a]
        have := list_at e0' a
        rwa [Nat.zero_add] at this
      · rw [if_neg a]
        by_cases b : j < 33
        · rw [if_pos b]
          obtain rfl : j = 32 := by omega
          exact list_one e1'
        · rw [if_neg b]
          obtain rfl : j = 33 := by omega
          exact list_one e2'
    · rw [if_neg hj, Array.getElem?_eq_none (by omega)]
  rw [e]
set_option maxRecDepth 100000 in
theorem open_box {r : Reach} {b0 : Nat} {v : Value} {d : DataW H} {p : List MemPlace} (hv : Value.okWide Tryd.prog w r b0 29 v) (h : DataW.Trod enc Tryd.prog w base spare held 29 v d p) :
    ∃ f g : Nat → Nat, (∀ i, f i < 256) ∧ (∀ i, g i < 256) ∧ v = .agg (ar 64 (duo f g)) := by
  obtain ⟨cs, rfl, hsz⟩ := okWide_struct Tryd.underlying29 hv
  rw [cells_box] at hsz
  obtain ⟨fuel, hf⟩ := h
  obtain ⟨y0, y1, m, _, _, h0, h1⟩ := trod_struct2 Tryd.underlying29 hf
  rw [cells_key] at h0
  rw [cells_tag] at h1
  obtain ⟨f, hk, e0⟩ := trod_ar uKey cells_key h0
  obtain ⟨g, hg, e1⟩ := trod_ar uTag cells_tag h1
  have e0' : (cs.toList.drop 0).take 32 = (ar 32 f).toList := e0
  have e1' : (cs.toList.drop 32).take 32 = (ar 32 g).toList := e1
  refine ⟨f, g, hk, hg, ?_⟩
  have e : cs = ar 64 (duo f g) := by
    apply Array.ext_getElem?
    intro j
    by_cases hj : j < 64
    · rw [get_ar hj, ← Array.getElem?_toList]
      unfold duo
      by_cases a : j < 32
      · rw [if_pos a]
        have := list_at e0' a
        rwa [Nat.zero_add] at this
      · rw [if_neg a]
        have := list_at e1' (show j - 32 < 32 by omega)
        rwa [show 32 + (j - 32) = j by omega] at this
    · rw [Array.getElem?_eq_none (by omega), Array.getElem?_eq_none (by rw [size_ar]; omega)]
  rw [e]
end
end BxP
end Go.Proofs.YtdfoehcdabmagaaDoor
set_option maxRecDepth 100000
namespace Go.Proofs.YtdfoehcdabmagaaDoor
open Go.ChangeShapes Go.WideShapes Go.ChangeAt Go.RowKit
theorem bw_below' (w : World) (e : TypeId) (s : ByteArray) : Below w.heap.size w (Lib.bytesWorld w e s) := by
  refine ⟨?_, ?_, ?_, by rw [Lib.bytesWorld_size]; omega, fun k hk => ?_⟩
  all_goals first | (unfold Lib.bytesWorld World.freeze; split <;> rfl) | exact Lib.bytesWorld_at_old w e s k hk
theorem bw_byt' (w : World) (e : TypeId) (s : ByteArray) : Byt (Lib.bytesWorld w e s) (Lib.bytesWorld w e s).heap.size (some ⟨w.heap.size, 0, none⟩) (nats s) := fun _ => by
  refine ⟨w.heap.size, 0, rfl, by rw [Lib.bytesWorld_size]; omega, fun i hi => ?_⟩
  rw [nats_length] at hi
  rw [Nat.zero_add, Lib.bytesWorld_cell w e s i hi]
  have h1 : i < s.data.toList.length := by simpa using hi
  simp [nats, List.getD_eq_getElem?_getD, List.getElem?_map, List.getElem?_eq_getElem h1]
section
variable {ops : Array Oper} {Q : Exit → Act → World → Prop} {a : Act} {w : World} {rest : List Oper} {dst : Option Tmp} {ty : TypeId} {pos : String} {after : Array Edge} {x : Operand} {s : ByteArray}
theorem wconvS (hx : a.eval x = .string s) (hs : s.size ≤ 1000000) (h : ∀ g cap w', g = w.heap.size → s.size ≤ cap → cap ≤ maxLen → Byt w' w'.heap.size (some ⟨g, 0, none⟩) (nats s) → Below w.heap.size w w' → wpList Tryd.prog ops Q rest (a.put dst (.slice (some ⟨g, 0, none⟩) s.size cap)) w') :
    wpList Tryd.prog ops Q (⟨dst, .convert 9 39 x, ty, pos, after, none⟩ :: rest) a w := by
  refine wpList_plain rfl fun K hK => ?_
  unfold Oper.wp execOp
  simp only [hx, Sem.run_bind]
  rw [Lib.run_convert_string_bytes w 9 39 5 s Tryd.underlying9 Tryd.underlying39 Tryd.underlying5]
  simp only [Result.andThen_ok, Sem.run_pure]
  exact hK _ _ (h _ _ _ rfl (grownCap_ge w s.size 0 5) (grownCap_le_maxLen w s.size 0 5 (by unfold maxLen; omega)) (bw_byt' w 5 s) (bw_below' w 5 s))
end
end Go.Proofs.YtdfoehcdabmagaaDoor
set_option maxRecDepth 100000
namespace Go.Proofs.YtdfoehcdabmagaaDoor
open Go.ChangeShapes Go.WideShapes Go.ChangeAt Go.RowKit
attribute [local go_sem] Gives
namespace DvP
theorem key_byt {w : World} {g : Nat} {t : TypeId} {k : Nat → Nat} (h : Blk w g t (ar 32 k)) : Byt w w.heap.size (some ⟨g, 0, none⟩) (HmM.dl k) := fun _ =>
  ⟨g, 0, rfl, h.lt, fun i hi => by rw [HmM.dl_length] at hi; rw [Nat.zero_add, h.cell, get_ar hi, HmM.dl_get _ hi]⟩
theorem flat_one (s : ByteArray) : (BytM.flatP [nats s]).length = 4 + s.size := by
  show (BytM.dig 4 (nats s).length ++ nats s ++ []).length = _
  rw [List.append_nil, List.length_append, BytM.dig_length, nats_length]
/-- One part of a text, as a list of parts. -/
theorem rws_one {w : World} {g g' cap : Nat} {t : TypeId} {s : ByteArray} (hb : Blk w g t #[.slice (some ⟨g', 0, none⟩) s.size cap]) (h1 : s.size ≤ cap) (h2 : cap ≤ maxLen) (h3 : Byt w w.heap.size (some ⟨g', 0, none⟩) (nats s)) : Rws w (some ⟨g, 0, none⟩) [nats s] 1 1 where
  len := rfl
  cap := Nat.le_refl _
  max := by unfold maxLen; omega
  b256 l hl := by rw [List.mem_singleton] at hl; subst hl; exact nats_256 s
  none h := by cases h
  prts _ := ⟨g, 0, rfl, hb.lt, fun i hi => by
    obtain rfl : i = 0 := by simpa using hi
    exact ⟨some ⟨g', 0, .none⟩, cap, by rw [show ([nats s] : List (List Nat)).getD 0 [] = nats s from rfl, nats_length]; exact hb.cell 0, by rw [show ([nats s] : List (List Nat)).getD 0 [] = nats s from rfl, nats_length]; exact h1, h2, h3, fun h => by cases h⟩⟩
set_option maxHeartbeats 800000 in
set_option maxRecDepth 100000 in
theorem sub_any (k : Nat → Nat) (hk : ∀ i, k i < 256) (s : ByteArray) (hs : s.size ≤ 10000) (w : World) (hS : Salts w) :
    Calls Tryd.prog 18 #[.agg (ar 32 k), .string s] w fun e w' => e = .returned (.agg (ar 32 (sub k s))) ∧ Below w.heap.size w w' := by
  have HF := hid hk
  have HS := hid hs
  have SA := hid hS
  clear hk hs hS
  go_enter Tryd.func18, Tryd.ntmps18
  go_upto_region 1 with (with_reducible apply alA tK)
  generalize hw1 : World.alloc (World.alloc w _) _ = w1
  have B1 := hid (show Blk w1 w.heap.size 23 (ar 32 k) by rw [← hw1]; exact (Blk.new _ _ _).alloc _)
  have B2 := hid (show Blk w1 (w.heap.size + 1) 23 (ar 32 fun _ => 0) by rw [← hw1]; exact Blk.top rfl (by simp))
  have BEL := hid (show Below w.heap.size w w1 by rw [← hw1]; exact ((Below.refl _ _).alloc (Nat.le_refl _) _).alloc (by simp) _)
  clear hw1
  have hgl2 := B2.out.lt
  go_wp2_with ((with_reducible apply wconvS); rfl; (have := HS.out; omega); intro g cap w2 hg hc1 hc2 hy hb2)
  have hr := rws_one (w := w2.alloc (.cells #[.slice (some ⟨w1.heap.size, 0, none⟩) s.size cap] 39)) (Blk.new _ _ _) hc1 hc2 (by rw [← hg]; exact (hy.below ((Below.refl w2.heap.size _).alloc (Nat.le_refl _) _) (Nat.le_refl _)).more (by simp))
  generalize hw3 : World.alloc w2 _ = w3 at hr ⊢
  have hb3 : Below w1.heap.size w1 w3 := by rw [← hw3]; exact hb2.alloc hb2.size _
  have c1 := hid (B1.out.below hb3 B1.out.lt)
  have c2 := hid (B2.out.below hb3 B2.out.lt)
  have cb := hid (BEL.out.trans (hb3.mono BEL.out.size))
  have cs := hid (SA.out.on cb.out)
  have HR := hid hr
  clear hw3 hr hb3 B1 B2 BEL hy hb2 SA hg
  refine (prow_any 68 (by omega) _ [nats s] 1 1 (by omega) (by rw [flat_one]; have := HS.out; omega) w3 HR.out).mono ?_
  rintro e w4 ⟨v, rfl, o4, h4⟩
  obtain ⟨A, acap, rfl, aa⟩ := o4.arg (rowD_256 HS.out)
  have d1 := hid (c1.out.below h4 c1.out.lt)
  have d2 := hid (c2.out.below h4 c2.out.lt)
  have db := hid (cb.out.trans (h4.mono cb.out.size))
  have ds := hid (cs.out.on h4)
  have AA := hid aa
  clear c1 c2 cb cs o4 h4 HR aa
  go_wp2_with fail
  have hlr := rowD_length HS.out
  rw [show BytM.rowB 68 [nats s] = rowD s from rfl] at AA ⊢
  refine (hof_any _ (HmM.dl k) 32 32 (HmM.dl_length k) (Nat.le_refl _) (by unfold maxLen; omega) (by omega) (HmM.dl_256 HF.out) A (rowD s) _ acap rfl AA.out.cap AA.out.max AA.out.b256 (by rw [hlr]; have := HS.out; omega) w4 (key_byt d1.out) AA.out.byt ds.out).mono ?_
  rintro e w5 ⟨rfl, h5⟩
  rw [show tag (HmM.tag (HmM.dl k) (rowD s)) = ar 32 (sub k s) from rfl]
  have e2 := d2.out.below h5 d2.out.lt
  have eb := hid (db.out.trans (h5.mono db.out.size))
  clear d1 d2 db ds h5 AA hlr
  go_wp2_with ((with_reducible apply stA tK); rfl; rfl; exact e2)
  apply ret_ar tK Tryd.results18
  · rfl
  · rfl
  · exact e2.setRow_same _
  exact ⟨rfl, below_setRow eb.out (by omega) _⟩
end DvP
end Go.Proofs.YtdfoehcdabmagaaDoor
set_option maxRecDepth 100000
namespace Go.Proofs.YtdfoehcdabmagaaDoor
open Go.ChangeShapes Go.WideShapes Go.ChangeAt Go.RowKit
open DvP (tK tT sub key_byt)
attribute [local go_sem] Gives GivesE
namespace BxP
theorem key_arg {w : World} {g : Nat} {t : TypeId} {f : Nat → Nat} (h : Blk w g t (ar 32 f)) (hf : ∀ k, f k < 256) : Arg w (some ⟨g, 0, none⟩) (HmM.dl f) (HmM.dl f).length 32 where
  len := rfl
  cap := by rw [HmM.dl_length]; omega
  max := by unfold maxLen; omega
  b256 := HmM.dl_256 hf
  none e := by cases e
  byt := key_byt h
set_option maxHeartbeats 400000 in
set_option maxRecDepth 100000 in
theorem lrow_any (f : Nat → Nat) (hf : ∀ k, f k < 256) (w : World) :
    Calls Tryd.prog 35 #[.agg (ar 32 f)] w fun e w' => ∃ v, e = .returned v ∧ Own 5 .u8 w' w.heap.size v (rowK f) ∧ Below w.heap.size w w' := by
  have HF := hid hf
  clear hf
  go_enter Tryd.func35, Tryd.ntmps35
  go_upto_region 1 with fail
  generalize hw1 : World.alloc w _ = w1
  have b1 := show Blk w1 w.heap.size 23 (ar 32 f) by rw [← hw1]; exact Blk.top rfl rfl
  have hb := hid (show Below w.heap.size w w1 by rw [← hw1]; exact (Below.refl _ _).alloc (Nat.le_refl _) _)
  have aa := key_arg b1 HF.out
  have hr := rws_single (w := w1.alloc (.cells #[.slice (some ⟨w.heap.size, 0, none⟩) (HmM.dl f).length 32] 39)) (Blk.new _ _ _) (aa.on ((Below.refl _ _).alloc (Nat.le_refl _) _))
  have db := hid (show Below w.heap.size w (w1.alloc (.cells #[.slice (some ⟨w.heap.size, 0, none⟩) (HmM.dl f).length 32] 39)) from hb.out.alloc hb.out.size _)
  rw [HmM.dl_length] at hr db
  have HR := hid hr
  clear hw1 aa hr hb b1
  go_wp2_with fail
  refine (prow_any 66 (by omega) _ [HmM.dl f] 1 1 (by omega) (by rw [flat_key]; omega) _ HR.out).mono ?_
  rintro e w4 ⟨v, rfl, o4, h4⟩
  have eb := hid (db.out.trans (h4.mono db.out.size))
  have O4 := hid (o4.lower db.out.size)
  clear db HR o4 h4
  go_wp2_with fail
  go_ret
  exact ⟨_, rfl, O4.out, eb.out⟩
set_option maxHeartbeats 400000 in
set_option maxRecDepth 100000 in
theorem ltag_any (k f : Nat → Nat) (hk : ∀ j, k j < 256) (hf : ∀ j, f j < 256) (w : World) (hS : Salts w) :
    Calls Tryd.prog 20 #[.agg (ar 32 k), .agg (ar 32 f)] w fun e w' => e = .returned (.agg (ar 32 (HmM.tag (HmM.dl k) (rowK f)))) ∧ Below w.heap.size w w' := by
  have HK := hid hk
  have HF := hid hf
  have SA := hid hS
  obtain ⟨T, hT⟩ : ∃ T, T = HmM.tag (HmM.dl k) (rowK f) := ⟨_, rfl⟩
  rw [← hT]
  have HTE := hid (show tag (HmM.tag (HmM.dl k) (rowK f)) = ar 32 T by rw [hT]; rfl)
  clear hk hf hS hT
  go_enter Tryd.func20, Tryd.ntmps20
  go_upto_region 1 with (with_reducible apply alA tT)
  rw [show ((w.alloc (.cells (ar 32 k) 23)).alloc (.cells (ar 32 f) 23)).heap.size = w.heap.size + 1 + 1 by simp]
  generalize hw3 : World.alloc (World.alloc (World.alloc w _) _) _ = w3
  have b0 := hid (show Blk w3 w.heap.size 23 (ar 32 k) by rw [← hw3]; exact ((Blk.new _ _ _).alloc _).alloc _)
  have b1 := hid (show Blk w3 (w.heap.size + 1) 23 (ar 32 f) by rw [← hw3]; exact (Blk.top rfl (by simp)).alloc _)
  have b2 := hid (show Blk w3 (w.heap.size + 1 + 1) 27 (ar 32 fun _ => 0) by rw [← hw3]; exact Blk.top rfl (by simp))
  have hb := hid (show Below w.heap.size w w3 by rw [← hw3]; exact (((Below.refl _ _).alloc (Nat.le_refl _) _).alloc (by simp) _).alloc (by simp; omega) _)
  have sa := hid (SA.out.on hb.out)
  clear hw3 SA
  refine wp_region_ex (S := wS [some (.slice (some ⟨w.heap.size, 0, none⟩) 32 32), some (.agg (ar 32 f)), none, some (.agg (ar 32 T))] 9 2) (D := wD 9 2 [] (rowK f)) (K := fun _ _ w w' => Below w.heap.size w w') (C := fun _ w' => Below w3.heap.size w3 w') 4 (by kernel_rfl) (by kernel_rfl) (by kernel_rfl)
    _ (wS_ok _ _ _) (fun i j vs w w' _ _ _ h hb => wD_below h hb) (fun j i vs v w hji _ h => wD_loc hji h) (Below.refl _ _).drew fun vs => ?_
  simp only [List.take_succ_cons, List.take_zero, List.drop_succ_cons, List.drop_zero]
  refine ⟨.inl ⟨rfl, fun dd w' hd hC hDs => ?_⟩, fun e => ?_⟩
  · go_simp
    first | exact ⟨rfl, Below.refl _ _, wD_none (by omega) (by omega)⟩ | exact ⟨rfl, hC, Below.refl _ _, wD_none (by omega) (by omega)⟩ | exact ⟨hC, Below.refl _ _, wD_none (by omega) (by omega)⟩
  have e' : vs 0 = _ := e
  rw [e']
  clear e e'
  simp only [Act.put, List.setIfInBounds_toArray, List.set_cons_succ, List.set_cons_zero]
  refine ⟨.inl ⟨rfl, fun dd w' hd hC hDs => ?_⟩, fun e => ?_⟩
  · exact gE_ldK tK rfl (b1.out.below hC b1.out.lt).head ⟨rfl, hC, Below.refl _ _, wD_none (by omega) (by omega)⟩
  have e' : vs 1 = _ := e
  rw [e']
  clear e e'
  simp only [Act.put, List.setIfInBounds_toArray, List.set_cons_succ, List.set_cons_zero]
  refine ⟨.inl ⟨rfl, fun dd w' hd hC hDs => ?_⟩, fun e => ?_⟩
  · go_simp
    refine (lrow_any f HF.out w').mono ?_
    rintro e w2 ⟨v, rfl, o2, h2⟩
    obtain ⟨A, cap, rfl, a2⟩ := o2.arg (rowK_256 HF.out)
    rw [rowK_length] at a2 ⊢
    exact ⟨_, rfl, (show slN 38 _ from ⟨A, cap, rfl⟩), hC.trans (h2.mono hC.size), h2, ⟨fun e => absurd e (by decide), fun _ => ⟨A, cap, updV_self _ _ _, a2⟩⟩⟩
  obtain ⟨A2, c2, e'⟩ : slN 38 (vs 2) := e
  rw [e']
  have E2 := hid e'
  clear e'
  simp only [Act.put, List.setIfInBounds_toArray, List.set_cons_succ, List.set_cons_zero]
  refine ⟨.inl ⟨rfl, fun dd w' hd hC hDs => ?_⟩, fun e => ?_⟩
  · obtain ⟨B6, k6, f6, a6⟩ := (hDs 2 (by kernel_rfl)).2 rfl
    rw [E2.out] at f6
    cases f6
    go_simp
    refine (hof_any _ (HmM.dl k) 32 32 (HmM.dl_length k) (Nat.le_refl _) (by unfold maxLen; omega) (by omega) (HmM.dl_256 HK.out) A2 (rowK f) 38 c2 a6.len a6.cap a6.max a6.b256 (by omega) w' (key_byt (b0.out.below hC b0.out.lt)) a6.byt (sa.out.on hC)).mono ?_
    rintro e w4 ⟨rfl, h4⟩
    rw [HTE.out]
    exact ⟨_, rfl, rfl, hC.trans (h4.mono hC.size), h4, wD_none (by omega) (by omega)⟩
  have e' : vs 3 = _ := e
  rw [e']
  clear e e'
  simp only [Act.put, List.setIfInBounds_toArray, List.set_cons_succ, List.set_cons_zero]
  intro dd w' hall hC hDs
  have d2 := b2.out.below hC b2.out.lt
  have db := hid (hb.out.trans (hC.mono hb.out.size))
  clear b0 b1 b2 hb hC hDs hall E2 sa
  go_wp2_with ((with_reducible apply stA tT); rfl; rfl; exact d2)
  apply ret_ar tT Tryd.results20
  · rfl
  · rfl
  · exact d2.setRow_same _
  exact ⟨rfl, below_setRow db.out (by omega) _⟩
end BxP
end Go.Proofs.YtdfoehcdabmagaaDoor
namespace Go.Proofs.YtdfoehcdabmagaaDoor
theorem ShaM.passes_block {s : ShaM.S8} {k r : List Nat} (h : k.length = 64) : ShaM.passes s (k ++ r) = ShaM.passes (ShaM.pass s (ShaM.at' k)) r := by
  rw [ShaM.passes_append 1 (by omega), ShaM.passes_long (l := k) (by omega), ShaM.passes_short (l := k.drop 64) (by rw [List.length_drop]; omega)]
set_option maxRecDepth 100000
theorem tag_fox_i_m0 : ShaM.sched (ShaM.at' [93, 83, 79, 54, 54, 54, 54, 54, 54, 54, 54, 54, 54, 54, 54, 54, 54, 54, 54, 54, 54, 54, 54, 54, 54, 54, 54, 54, 54, 54, 54, 54, 54, 54, 54, 54, 54, 54, 54, 54, 54, 54, 54, 54, 54, 54, 54, 54, 54, 54, 54, 54, 54, 54, 54, 54, 54, 54, 54, 54, 54, 54, 54, 54]) = [1565740854, 909522486, 909522486, 909522486, 909522486, 909522486, 909522486, 909522486, 909522486, 909522486, 909522486, 909522486, 909522486, 909522486, 909522486, 909522486, 1484848355, 828629987, 3046079234, 3776264696, 2791310139, 2408496505, 1432802191, 4279136217, 40131307, 3440696412, 2761625533, 3109296823, 2464963315, 15183730, 3262041459, 1301009130, 494097387, 911498773, 3591502981, 2081777627, 3068146072, 300753484, 4189014784, 316684472, 482755238, 1789643473, 2292660537, 4028708497, 808784977, 80985466, 663664670, 349427506, 1313325631, 3200613697, 3221973858, 3913925113, 1731109990, 3732668420, 293673707, 3227921096, 3874275074, 2802869092, 2861148269, 1991861016, 193996981, 1258338248, 2361588754, 3500943187] := by decide +kernel
theorem tag_fox_i_s0 : ShaM.steps [1565740854, 909522486, 909522486, 909522486, 909522486, 909522486, 909522486, 909522486, 909522486, 909522486, 909522486, 909522486, 909522486, 909522486, 909522486, 909522486, 1484848355, 828629987, 3046079234, 3776264696, 2791310139, 2408496505, 1432802191, 4279136217, 40131307, 3440696412, 2761625533, 3109296823, 2464963315, 15183730, 3262041459, 1301009130, 494097387, 911498773, 3591502981, 2081777627, 3068146072, 300753484, 4189014784, 316684472, 482755238, 1789643473, 2292660537, 4028708497, 808784977, 80985466, 663664670, 349427506, 1313325631, 3200613697, 3221973858, 3913925113, 1731109990, 3732668420, 293673707, 3227921096, 3874275074, 2802869092, 2861148269, 1991861016, 193996981, 1258338248, 2361588754, 3500943187] 64 ⟨1779033703, 3144134277, 1013904242, 2773480762, 1359893119, 2600822924, 528734635, 1541459225⟩ = ⟨1684200147, 2360816372, 934346168, 2452492707, 1426189322, 3382913752, 1283415264, 654056988⟩ := by decide +kernel
theorem tag_fox_i_p0 : ShaM.pass ⟨1779033703, 3144134277, 1013904242, 2773480762, 1359893119, 2600822924, 528734635, 1541459225⟩ (ShaM.at' [93, 83, 79, 54, 54, 54, 54, 54, 54, 54, 54, 54, 54, 54, 54, 54, 54, 54, 54, 54, 54, 54, 54, 54, 54, 54, 54, 54, 54, 54, 54, 54, 54, 54, 54, 54, 54, 54, 54, 54, 54, 54, 54, 54, 54, 54, 54, 54, 54, 54, 54, 54, 54, 54, 54, 54, 54, 54, 54, 54, 54, 54, 54, 54]) = ⟨3463233850, 1209983353, 1948250410, 931006173, 2786082441, 1688769380, 1812149899, 2195516213⟩ := by
  unfold ShaM.pass
  rw [tag_fox_i_m0, tag_fox_i_s0]
  rfl
theorem tag_fox_i_m1 : ShaM.sched (ShaM.at' [84, 104, 101, 32, 113, 117, 105, 99, 107, 32, 98, 114, 111, 119, 110, 32, 102, 111, 120, 32, 106, 117, 109, 112, 115, 32, 111, 118, 101, 114, 32, 116, 104, 101, 32, 108, 97, 122, 121, 32, 100, 111, 103, 128, 0, 0, 0, 0, 0, 0, 0, 0, 0, 0, 0, 0, 0, 0, 0, 0, 0, 0, 3, 88]) = [1416127776, 1903520099, 1797284466, 1870097952, 1718581280, 1786080624, 1931505526, 1701978228, 1751457900, 1635416352, 1685022592, 0, 0, 0, 0, 856, 1215789539, 3369772837, 1438141474, 147128942, 1286988929, 2236494754, 777899669, 724914221, 1652101295, 2398219790, 395259173, 396037982, 4169268895, 345964178, 2628613065, 352212796, 3932672556, 519796785, 508523907, 1183815677, 2400673158, 3074333110, 2481456119, 3422383585, 4199991306, 1280787848, 2556776200, 1348430178, 1461863882, 3731819580, 3261972228, 655793655, 1593858064, 759378383, 2909831118, 1747216474, 2074102933, 814742857, 1817559613, 3837537694, 1229741528, 3742076030, 3133341155, 2462041720, 1251173789, 3836026743, 3546991780, 3660136386] := by decide +kernel
theorem tag_fox_i_s1 : ShaM.steps [1416127776, 1903520099, 1797284466, 1870097952, 1718581280, 1786080624, 1931505526, 1701978228, 1751457900, 1635416352, 1685022592, 0, 0, 0, 0, 856, 1215789539, 3369772837, 1438141474, 147128942, 1286988929, 2236494754, 777899669, 724914221, 1652101295, 2398219790, 395259173, 396037982, 4169268895, 345964178, 2628613065, 352212796, 3932672556, 519796785, 508523907, 1183815677, 2400673158, 3074333110, 2481456119, 3422383585, 4199991306, 1280787848, 2556776200, 1348430178, 1461863882, 3731819580, 3261972228, 655793655, 1593858064, 759378383, 2909831118, 1747216474, 2074102933, 814742857, 1817559613, 3837537694, 1229741528, 3742076030, 3133341155, 2462041720, 1251173789, 3836026743, 3546991780, 3660136386] 64 ⟨3463233850, 1209983353, 1948250410, 931006173, 2786082441, 1688769380, 1812149899, 2195516213⟩ = ⟨2892205344, 1501564153, 2752293195, 1962128182, 3710653811, 3911201969, 1655987682, 3545320188⟩ := by decide +kernel
theorem tag_fox_i_p1 : ShaM.pass ⟨3463233850, 1209983353, 1948250410, 931006173, 2786082441, 1688769380, 1812149899, 2195516213⟩ (ShaM.at' [84, 104, 101, 32, 113, 117, 105, 99, 107, 32, 98, 114, 111, 119, 110, 32, 102, 111, 120, 32, 106, 117, 109, 112, 115, 32, 111, 118, 101, 114, 32, 116, 104, 101, 32, 108, 97, 122, 121, 32, 100, 111, 103, 128, 0, 0, 0, 0, 0, 0, 0, 0, 0, 0, 0, 0, 0, 0, 0, 0, 0, 0, 3, 88]) = ⟨2060471898, 2711547506, 405576309, 2893134355, 2201768956, 1305004053, 3468137581, 1445869105⟩ := by
  unfold ShaM.pass
  rw [tag_fox_i_m1, tag_fox_i_s1]
  rfl
theorem tag_fox_i : ShaM.sum [93, 83, 79, 54, 54, 54, 54, 54, 54, 54, 54, 54, 54, 54, 54, 54, 54, 54, 54, 54, 54, 54, 54, 54, 54, 54, 54, 54, 54, 54, 54, 54, 54, 54, 54, 54, 54, 54, 54, 54, 54, 54, 54, 54, 54, 54, 54, 54, 54, 54, 54, 54, 54, 54, 54, 54, 54, 54, 54, 54, 54, 54, 54, 54, 84, 104, 101, 32, 113, 117, 105, 99, 107, 32, 98, 114, 111, 119, 110, 32, 102, 111, 120, 32, 106, 117, 109, 112, 115, 32, 111, 118, 101, 114, 32, 116, 104, 101, 32, 108, 97, 122, 121, 32, 100, 111, 103] = ShaM.digest ⟨2060471898, 2711547506, 405576309, 2893134355, 2201768956, 1305004053, 3468137581, 1445869105⟩ := by
  unfold ShaM.sum ShaM.ended
  have e : [93, 83, 79, 54, 54, 54, 54, 54, 54, 54, 54, 54, 54, 54, 54, 54, 54, 54, 54, 54, 54, 54, 54, 54, 54, 54, 54, 54, 54, 54, 54, 54, 54, 54, 54, 54, 54, 54, 54, 54, 54, 54, 54, 54, 54, 54, 54, 54, 54, 54, 54, 54, 54, 54, 54, 54, 54, 54, 54, 54, 54, 54, 54, 54, 84, 104, 101, 32, 113, 117, 105, 99, 107, 32, 98, 114, 111, 119, 110, 32, 102, 111, 120, 32, 106, 117, 109, 112, 115, 32, 111, 118, 101, 114, 32, 116, 104, 101, 32, 108, 97, 122, 121, 32, 100, 111, 103] ++ ShaM.tail (0 + ([93, 83, 79, 54, 54, 54, 54, 54, 54, 54, 54, 54, 54, 54, 54, 54, 54, 54, 54, 54, 54, 54, 54, 54, 54, 54, 54, 54, 54, 54, 54, 54, 54, 54, 54, 54, 54, 54, 54, 54, 54, 54, 54, 54, 54, 54, 54, 54, 54, 54, 54, 54, 54, 54, 54, 54, 54, 54, 54, 54, 54, 54, 54, 54, 84, 104, 101, 32, 113, 117, 105, 99, 107, 32, 98, 114, 111, 119, 110, 32, 102, 111, 120, 32, 106, 117, 109, 112, 115, 32, 111, 118, 101, 114, 32, 116, 104, 101, 32, 108, 97, 122, 121, 32, 100, 111, 103] : List Nat).length) = [93, 83, 79, 54, 54, 54, 54, 54, 54, 54, 54, 54, 54, 54, 54, 54, 54, 54, 54, 54, 54, 54, 54, 54, 54, 54, 54, 54, 54, 54, 54, 54, 54, 54, 54, 54, 54, 54, 54, 54, 54, 54, 54, 54, 54, 54, 54, 54, 54, 54, 54, 54, 54, 54, 54, 54, 54, 54, 54, 54, 54, 54, 54, 54] ++ ([84, 104, 101, 32, 113, 117, 105, 99, 107, 32, 98, 114, 111, 119, 110, 32, 102, 111, 120, 32, 106, 117, 109, 112, 115, 32, 111, 118, 101, 114, 32, 116, 104, 101, 32, 108, 97, 122, 121, 32, 100, 111, 103, 128, 0, 0, 0, 0, 0, 0, 0, 0, 0, 0, 0, 0, 0, 0, 0, 0, 0, 0, 3, 88] ++ []) := by decide +kernel
  rw [e]
  unfold ShaM.seeds
  rw [ShaM.passes_block rfl, tag_fox_i_p0]
  rw [ShaM.passes_block rfl, tag_fox_i_p1]
  rw [ShaM.passes_short (by decide)]
theorem tag_fox_o_m0 : ShaM.sched (ShaM.at' [55, 57, 37, 92, 92, 92, 92, 92, 92, 92, 92, 92, 92, 92, 92, 92, 92, 92, 92, 92, 92, 92, 92, 92, 92, 92, 92, 92, 92, 92, 92, 92, 92, 92, 92, 92, 92, 92, 92, 92, 92, 92, 92, 92, 92, 92, 92, 92, 92, 92, 92, 92, 92, 92, 92, 92, 92, 92, 92, 92, 92, 92, 92, 92]) = [926491996, 1549556828, 1549556828, 1549556828, 1549556828, 1549556828, 1549556828, 1549556828, 1549556828, 1549556828, 1549556828, 1549556828, 1549556828, 1549556828, 1549556828, 1549556828, 3714865294, 42962830, 71224041, 2467512273, 419793414, 1427315712, 3508693916, 3414310394, 2073676349, 1580214183, 1876669726, 817288029, 30058875, 2238447637, 3449114864, 1750348975, 1034487982, 1870231200, 1492350634, 2551253359, 1091581649, 2177230372, 3132317206, 1613577344, 4237171436, 3444518892, 3735190717, 1080276738, 825345298, 2577826517, 1725666600, 266232400, 3552217556, 3447915245, 1034235887, 1366263077, 762175820, 141195417, 1526492843, 3893978693, 2423250948, 2852858871, 495248698, 2978091584, 1082942764, 4181982254, 1183382068, 866141841] := by decide +kernel
theorem tag_fox_o_s0 : ShaM.steps [926491996, 1549556828, 1549556828, 1549556828, 1549556828, 1549556828, 1549556828, 1549556828, 1549556828, 1549556828, 1549556828, 1549556828, 1549556828, 1549556828, 1549556828, 1549556828, 3714865294, 42962830, 71224041, 2467512273, 419793414, 1427315712, 3508693916, 3414310394, 2073676349, 1580214183, 1876669726, 817288029, 30058875, 2238447637, 3449114864, 1750348975, 1034487982, 1870231200, 1492350634, 2551253359, 1091581649, 2177230372, 3132317206, 1613577344, 4237171436, 3444518892, 3735190717, 1080276738, 825345298, 2577826517, 1725666600, 266232400, 3552217556, 3447915245, 1034235887, 1366263077, 762175820, 141195417, 1526492843, 3893978693, 2423250948, 2852858871, 495248698, 2978091584, 1082942764, 4181982254, 1183382068, 866141841] 64 ⟨1779033703, 3144134277, 1013904242, 2773480762, 1359893119, 2600822924, 528734635, 1541459225⟩ = ⟨3554845911, 3276016999, 1131932123, 1909965967, 3317631551, 862414799, 965320497, 1306753097⟩ := by decide +kernel
theorem tag_fox_o_p0 : ShaM.pass ⟨1779033703, 3144134277, 1013904242, 2773480762, 1359893119, 2600822924, 528734635, 1541459225⟩ (ShaM.at' [55, 57, 37, 92, 92, 92, 92, 92, 92, 92, 92, 92, 92, 92, 92, 92, 92, 92, 92, 92, 92, 92, 92, 92, 92, 92, 92, 92, 92, 92, 92, 92, 92, 92, 92, 92, 92, 92, 92, 92, 92, 92, 92, 92, 92, 92, 92, 92, 92, 92, 92, 92, 92, 92, 92, 92, 92, 92, 92, 92, 92, 92, 92, 92]) = ⟨1038912318, 2125183980, 2145836365, 388479433, 382557374, 3463237723, 1494055132, 2848212322⟩ := by
  unfold ShaM.pass
  rw [tag_fox_o_m0, tag_fox_o_s0]
  rfl
theorem tag_fox_o_m1 : ShaM.sched (ShaM.at' [122, 208, 78, 90, 161, 158, 238, 114, 24, 44, 154, 117, 172, 113, 186, 19, 131, 60, 83, 252, 77, 200, 200, 21, 206, 183, 148, 109, 86, 46, 54, 49, 128, 0, 0, 0, 0, 0, 0, 0, 0, 0, 0, 0, 0, 0, 0, 0, 0, 0, 0, 0, 0, 0, 0, 0, 0, 0, 0, 0, 0, 0, 3, 0]) = [2060471898, 2711547506, 405576309, 2893134355, 2201768956, 1305004053, 3468137581, 1445869105, 2147483648, 0, 0, 0, 0, 0, 0, 768, 3317470927, 1931967203, 1309560555, 4232161875, 2199878961, 1433815007, 96181441, 401345156, 2971748208, 3525689588, 2277224760, 3681548119, 68224421, 187918824, 3138597301, 763112752, 2900329290, 3674177272, 776586084, 4245826450, 2384189663, 3331990788, 3540178663, 3245945101, 1100636370, 1287433186, 1245692687, 906843348, 4020893555, 2410450418, 2964470209, 2794221402, 2330270090, 2633729803, 1156228097, 4175975732, 3162069086, 4157531122, 1351189059, 782109178, 3087681302, 1048681065, 2852675464, 2029214994, 3811510533, 3228741452, 4281665153, 2739037895] := by decide +kernel
theorem tag_fox_o_s1 : ShaM.steps [2060471898, 2711547506, 405576309, 2893134355, 2201768956, 1305004053, 3468137581, 1445869105, 2147483648, 0, 0, 0, 0, 0, 0, 768, 3317470927, 1931967203, 1309560555, 4232161875, 2199878961, 1433815007, 96181441, 401345156, 2971748208, 3525689588, 2277224760, 3681548119, 68224421, 187918824, 3138597301, 763112752, 2900329290, 3674177272, 776586084, 4245826450, 2384189663, 3331990788, 3540178663, 3245945101, 1100636370, 1287433186, 1245692687, 906843348, 4020893555, 2410450418, 2964470209, 2794221402, 2330270090, 2633729803, 1156228097, 4175975732, 3162069086, 4157531122, 1351189059, 782109178, 3087681302, 1048681065, 2852675464, 2029214994, 3811510533, 3228741452, 4281665153, 2739037895] 64 ⟨1038912318, 2125183980, 2145836365, 388479433, 382557374, 3463237723, 1494055132, 2848212322⟩ = ⟨3117414582, 2980563000, 827046809, 2470967162, 3632266467, 2061059838, 1043997920, 2203449206⟩ := by decide +kernel
theorem tag_fox_o_p1 : ShaM.pass ⟨1038912318, 2125183980, 2145836365, 388479433, 382557374, 3463237723, 1494055132, 2848212322⟩ (ShaM.at' [122, 208, 78, 90, 161, 158, 238, 114, 24, 44, 154, 117, 172, 113, 186, 19, 131, 60, 83, 252, 77, 200, 200, 21, 206, 183, 148, 109, 86, 46, 54, 49, 128, 0, 0, 0, 0, 0, 0, 0, 0, 0, 0, 0, 0, 0, 0, 0, 0, 0, 0, 0, 0, 0, 0, 0, 0, 0, 0, 0, 0, 0, 3, 0]) = ⟨4156326900, 810779684, 2972883174, 2859446595, 4014823841, 1229330265, 2538053052, 756694232⟩ := by
  unfold ShaM.pass
  rw [tag_fox_o_m1, tag_fox_o_s1]
  rfl
theorem tag_fox_o : ShaM.sum [55, 57, 37, 92, 92, 92, 92, 92, 92, 92, 92, 92, 92, 92, 92, 92, 92, 92, 92, 92, 92, 92, 92, 92, 92, 92, 92, 92, 92, 92, 92, 92, 92, 92, 92, 92, 92, 92, 92, 92, 92, 92, 92, 92, 92, 92, 92, 92, 92, 92, 92, 92, 92, 92, 92, 92, 92, 92, 92, 92, 92, 92, 92, 92, 122, 208, 78, 90, 161, 158, 238, 114, 24, 44, 154, 117, 172, 113, 186, 19, 131, 60, 83, 252, 77, 200, 200, 21, 206, 183, 148, 109, 86, 46, 54, 49] = ShaM.digest ⟨4156326900, 810779684, 2972883174, 2859446595, 4014823841, 1229330265, 2538053052, 756694232⟩ := by
  unfold ShaM.sum ShaM.ended
  have e : [55, 57, 37, 92, 92, 92, 92, 92, 92, 92, 92, 92, 92, 92, 92, 92, 92, 92, 92, 92, 92, 92, 92, 92, 92, 92, 92, 92, 92, 92, 92, 92, 92, 92, 92, 92, 92, 92, 92, 92, 92, 92, 92, 92, 92, 92, 92, 92, 92, 92, 92, 92, 92, 92, 92, 92, 92, 92, 92, 92, 92, 92, 92, 92, 122, 208, 78, 90, 161, 158, 238, 114, 24, 44, 154, 117, 172, 113, 186, 19, 131, 60, 83, 252, 77, 200, 200, 21, 206, 183, 148, 109, 86, 46, 54, 49] ++ ShaM.tail (0 + ([55, 57, 37, 92, 92, 92, 92, 92, 92, 92, 92, 92, 92, 92, 92, 92, 92, 92, 92, 92, 92, 92, 92, 92, 92, 92, 92, 92, 92, 92, 92, 92, 92, 92, 92, 92, 92, 92, 92, 92, 92, 92, 92, 92, 92, 92, 92, 92, 92, 92, 92, 92, 92, 92, 92, 92, 92, 92, 92, 92, 92, 92, 92, 92, 122, 208, 78, 90, 161, 158, 238, 114, 24, 44, 154, 117, 172, 113, 186, 19, 131, 60, 83, 252, 77, 200, 200, 21, 206, 183, 148, 109, 86, 46, 54, 49] : List Nat).length) = [55, 57, 37, 92, 92, 92, 92, 92, 92, 92, 92, 92, 92, 92, 92, 92, 92, 92, 92, 92, 92, 92, 92, 92, 92, 92, 92, 92, 92, 92, 92, 92, 92, 92, 92, 92, 92, 92, 92, 92, 92, 92, 92, 92, 92, 92, 92, 92, 92, 92, 92, 92, 92, 92, 92, 92, 92, 92, 92, 92, 92, 92, 92, 92] ++ ([122, 208, 78, 90, 161, 158, 238, 114, 24, 44, 154, 117, 172, 113, 186, 19, 131, 60, 83, 252, 77, 200, 200, 21, 206, 183, 148, 109, 86, 46, 54, 49, 128, 0, 0, 0, 0, 0, 0, 0, 0, 0, 0, 0, 0, 0, 0, 0, 0, 0, 0, 0, 0, 0, 0, 0, 0, 0, 0, 0, 0, 0, 3, 0] ++ []) := by decide +kernel
  rw [e]
  unfold ShaM.seeds
  rw [ShaM.passes_block rfl, tag_fox_o_p0]
  rw [ShaM.passes_block rfl, tag_fox_o_p1]
  rw [ShaM.passes_short (by decide)]
theorem tag_fox : HmM.tag [107, 101, 121] [84, 104, 101, 32, 113, 117, 105, 99, 107, 32, 98, 114, 111, 119, 110, 32, 102, 111, 120, 32, 106, 117, 109, 112, 115, 32, 111, 118, 101, 114, 32, 116, 104, 101, 32, 108, 97, 122, 121, 32, 100, 111, 103] = ShaM.digest ⟨4156326900, 810779684, 2972883174, 2859446595, 4014823841, 1229330265, 2538053052, 756694232⟩ := by
  unfold HmM.tag
  have e1 : HmM.pad 54 (HmM.blk [107, 101, 121]) ++ [84, 104, 101, 32, 113, 117, 105, 99, 107, 32, 98, 114, 111, 119, 110, 32, 102, 111, 120, 32, 106, 117, 109, 112, 115, 32, 111, 118, 101, 114, 32, 116, 104, 101, 32, 108, 97, 122, 121, 32, 100, 111, 103] = [93, 83, 79, 54, 54, 54, 54, 54, 54, 54, 54, 54, 54, 54, 54, 54, 54, 54, 54, 54, 54, 54, 54, 54, 54, 54, 54, 54, 54, 54, 54, 54, 54, 54, 54, 54, 54, 54, 54, 54, 54, 54, 54, 54, 54, 54, 54, 54, 54, 54, 54, 54, 54, 54, 54, 54, 54, 54, 54, 54, 54, 54, 54, 54, 84, 104, 101, 32, 113, 117, 105, 99, 107, 32, 98, 114, 111, 119, 110, 32, 102, 111, 120, 32, 106, 117, 109, 112, 115, 32, 111, 118, 101, 114, 32, 116, 104, 101, 32, 108, 97, 122, 121, 32, 100, 111, 103] := by decide +kernel
  have e2 : HmM.pad 92 (HmM.blk [107, 101, 121]) = [55, 57, 37, 92, 92, 92, 92, 92, 92, 92, 92, 92, 92, 92, 92, 92, 92, 92, 92, 92, 92, 92, 92, 92, 92, 92, 92, 92, 92, 92, 92, 92, 92, 92, 92, 92, 92, 92, 92, 92, 92, 92, 92, 92, 92, 92, 92, 92, 92, 92, 92, 92, 92, 92, 92, 92, 92, 92, 92, 92, 92, 92, 92, 92] := by decide +kernel
  have e3 : HmM.dl (ShaM.digest ⟨2060471898, 2711547506, 405576309, 2893134355, 2201768956, 1305004053, 3468137581, 1445869105⟩) = [122, 208, 78, 90, 161, 158, 238, 114, 24, 44, 154, 117, 172, 113, 186, 19, 131, 60, 83, 252, 77, 200, 200, 21, 206, 183, 148, 109, 86, 46, 54, 49] := by decide +kernel
  have e4 : [55, 57, 37, 92, 92, 92, 92, 92, 92, 92, 92, 92, 92, 92, 92, 92, 92, 92, 92, 92, 92, 92, 92, 92, 92, 92, 92, 92, 92, 92, 92, 92, 92, 92, 92, 92, 92, 92, 92, 92, 92, 92, 92, 92, 92, 92, 92, 92, 92, 92, 92, 92, 92, 92, 92, 92, 92, 92, 92, 92, 92, 92, 92, 92] ++ [122, 208, 78, 90, 161, 158, 238, 114, 24, 44, 154, 117, 172, 113, 186, 19, 131, 60, 83, 252, 77, 200, 200, 21, 206, 183, 148, 109, 86, 46, 54, 49] = [55, 57, 37, 92, 92, 92, 92, 92, 92, 92, 92, 92, 92, 92, 92, 92, 92, 92, 92, 92, 92, 92, 92, 92, 92, 92, 92, 92, 92, 92, 92, 92, 92, 92, 92, 92, 92, 92, 92, 92, 92, 92, 92, 92, 92, 92, 92, 92, 92, 92, 92, 92, 92, 92, 92, 92, 92, 92, 92, 92, 92, 92, 92, 92, 122, 208, 78, 90, 161, 158, 238, 114, 24, 44, 154, 117, 172, 113, 186, 19, 131, 60, 83, 252, 77, 200, 200, 21, 206, 183, 148, 109, 86, 46, 54, 49] := by decide +kernel
  rw [e1, tag_fox_i, e2, e3, e4, tag_fox_o]
end Go.Proofs.YtdfoehcdabmagaaDoor
set_option maxRecDepth 100000
namespace Go.Proofs.YtdfoehcdabmagaaDoor
namespace BxP
theorem t_pad7_i_m0 : ShaM.sched (ShaM.at' [55, 54, 54, 54, 54, 54, 54, 54, 54, 54, 54, 54, 54, 54, 54, 54, 54, 54, 54, 54, 54, 54, 54, 54, 54, 54, 54, 54, 54, 54, 54, 54, 54, 54, 54, 54, 54, 54, 54, 54, 54, 54, 54, 54, 54, 54, 54, 54, 54, 54, 54, 54, 54, 54, 54, 54, 54, 54, 54, 54, 54, 54, 54, 54]) = [926299702, 909522486, 909522486, 909522486, 909522486, 909522486, 909522486, 909522486, 909522486, 909522486, 909522486, 909522486, 909522486, 909522486, 909522486, 909522486, 845407203, 828629987, 3776248600, 3776264696, 912964905, 2408496505, 1557117674, 3639695065, 2030081872, 2146714536, 1473186522, 4253476762, 286240178, 690903313, 431603075, 3483909837, 3565560050, 3034984891, 1452058902, 3436727378, 1862664749, 175342587, 3940193252, 3908959718, 2575738540, 2497146265, 1073382371, 1431774623, 3728283178, 4107699554, 980982357, 1918137415, 3043498573, 3050410478, 1765543672, 2108617266, 37377069, 1554257691, 1836758642, 193529071, 1478067382, 41184778, 2917988144, 508050850, 2589861454, 123914134, 3146359846, 2432357136] := by decide +kernel
theorem t_pad7_i_s0 : ShaM.steps [926299702, 909522486, 909522486, 909522486, 909522486, 909522486, 909522486, 909522486, 909522486, 909522486, 909522486, 909522486, 909522486, 909522486, 909522486, 909522486, 845407203, 828629987, 3776248600, 3776264696, 912964905, 2408496505, 1557117674, 3639695065, 2030081872, 2146714536, 1473186522, 4253476762, 286240178, 690903313, 431603075, 3483909837, 3565560050, 3034984891, 1452058902, 3436727378, 1862664749, 175342587, 3940193252, 3908959718, 2575738540, 2497146265, 1073382371, 1431774623, 3728283178, 4107699554, 980982357, 1918137415, 3043498573, 3050410478, 1765543672, 2108617266, 37377069, 1554257691, 1836758642, 193529071, 1478067382, 41184778, 2917988144, 508050850, 2589861454, 123914134, 3146359846, 2432357136] 64 ⟨1779033703, 3144134277, 1013904242, 2773480762, 1359893119, 2600822924, 528734635, 1541459225⟩ = ⟨1468799727, 2150233663, 2895672555, 1604221374, 154026059, 1351332223, 593943023, 2785742546⟩ := by decide +kernel
theorem t_pad7_i_p0 : ShaM.pass ⟨1779033703, 3144134277, 1013904242, 2773480762, 1359893119, 2600822924, 528734635, 1541459225⟩ (ShaM.at' [55, 54, 54, 54, 54, 54, 54, 54, 54, 54, 54, 54, 54, 54, 54, 54, 54, 54, 54, 54, 54, 54, 54, 54, 54, 54, 54, 54, 54, 54, 54, 54, 54, 54, 54, 54, 54, 54, 54, 54, 54, 54, 54, 54, 54, 54, 54, 54, 54, 54, 54, 54, 54, 54, 54, 54, 54, 54, 54, 54, 54, 54, 54, 54]) = ⟨3247833430, 999400644, 3909576797, 82734840, 1513919178, 3952155147, 1122677658, 32234475⟩ := by
  unfold ShaM.pass
  rw [t_pad7_i_m0, t_pad7_i_s0]
  rfl
theorem t_pad7_i_m1 : ShaM.sched (ShaM.at' [68, 1, 0, 0, 0, 10, 115, 108, 111, 116, 32, 112, 97, 100, 32, 55, 128, 0, 0, 0, 0, 0, 0, 0, 0, 0, 0, 0, 0, 0, 0, 0, 0, 0, 0, 0, 0, 0, 0, 0, 0, 0, 0, 0, 0, 0, 0, 0, 0, 0, 0, 0, 0, 0, 0, 0, 0, 0, 0, 0, 0, 0, 2, 128]) = [1140916224, 684908, 1869881456, 1633951799, 2147483648, 0, 0, 0, 0, 0, 0, 0, 0, 0, 0, 640, 2296076937, 3863407359, 2693756975, 444456584, 3543795592, 1418957062, 1124188155, 1133649608, 3461936270, 3980215659, 2137196386, 3713911792, 936786338, 2679300722, 538625980, 3495077751, 183884750, 40243905, 962790500, 2813284693, 941124988, 1215351288, 1841003398, 97339528, 1049544299, 1052701718, 1811343772, 2264569683, 2021910335, 4101820541, 298158496, 3970341850, 3331168896, 458336154, 2859422219, 3952608946, 1004823639, 1031382335, 1537330666, 315102564, 3488491937, 2165746038, 996957256, 3435361718, 756641018, 1156606945, 3476150749, 1966020157] := by decide +kernel
theorem t_pad7_i_s1 : ShaM.steps [1140916224, 684908, 1869881456, 1633951799, 2147483648, 0, 0, 0, 0, 0, 0, 0, 0, 0, 0, 640, 2296076937, 3863407359, 2693756975, 444456584, 3543795592, 1418957062, 1124188155, 1133649608, 3461936270, 3980215659, 2137196386, 3713911792, 936786338, 2679300722, 538625980, 3495077751, 183884750, 40243905, 962790500, 2813284693, 941124988, 1215351288, 1841003398, 97339528, 1049544299, 1052701718, 1811343772, 2264569683, 2021910335, 4101820541, 298158496, 3970341850, 3331168896, 458336154, 2859422219, 3952608946, 1004823639, 1031382335, 1537330666, 315102564, 3488491937, 2165746038, 996957256, 3435361718, 756641018, 1156606945, 3476150749, 1966020157] 64 ⟨3247833430, 999400644, 3909576797, 82734840, 1513919178, 3952155147, 1122677658, 32234475⟩ = ⟨146327570, 1972424448, 3585293786, 3078744954, 856333143, 830588751, 1583539440, 4114749272⟩ := by decide +kernel
theorem t_pad7_i_p1 : ShaM.pass ⟨3247833430, 999400644, 3909576797, 82734840, 1513919178, 3952155147, 1122677658, 32234475⟩ (ShaM.at' [68, 1, 0, 0, 0, 10, 115, 108, 111, 116, 32, 112, 97, 100, 32, 55, 128, 0, 0, 0, 0, 0, 0, 0, 0, 0, 0, 0, 0, 0, 0, 0, 0, 0, 0, 0, 0, 0, 0, 0, 0, 0, 0, 0, 0, 0, 0, 0, 0, 0, 0, 0, 0, 0, 0, 0, 0, 0, 0, 0, 0, 0, 2, 128]) = ⟨3394161000, 2971825092, 3199903287, 3161479794, 2370252321, 487776602, 2706217098, 4146983747⟩ := by
  unfold ShaM.pass
  rw [t_pad7_i_m1, t_pad7_i_s1]
  rfl
theorem t_pad7_i : ShaM.sum [55, 54, 54, 54, 54, 54, 54, 54, 54, 54, 54, 54, 54, 54, 54, 54, 54, 54, 54, 54, 54, 54, 54, 54, 54, 54, 54, 54, 54, 54, 54, 54, 54, 54, 54, 54, 54, 54, 54, 54, 54, 54, 54, 54, 54, 54, 54, 54, 54, 54, 54, 54, 54, 54, 54, 54, 54, 54, 54, 54, 54, 54, 54, 54, 68, 1, 0, 0, 0, 10, 115, 108, 111, 116, 32, 112, 97, 100, 32, 55] = ShaM.digest ⟨3394161000, 2971825092, 3199903287, 3161479794, 2370252321, 487776602, 2706217098, 4146983747⟩ := by
  unfold ShaM.sum ShaM.ended
  have e : [55, 54, 54, 54, 54, 54, 54, 54, 54, 54, 54, 54, 54, 54, 54, 54, 54, 54, 54, 54, 54, 54, 54, 54, 54, 54, 54, 54, 54, 54, 54, 54, 54, 54, 54, 54, 54, 54, 54, 54, 54, 54, 54, 54, 54, 54, 54, 54, 54, 54, 54, 54, 54, 54, 54, 54, 54, 54, 54, 54, 54, 54, 54, 54, 68, 1, 0, 0, 0, 10, 115, 108, 111, 116, 32, 112, 97, 100, 32, 55] ++ ShaM.tail (0 + ([55, 54, 54, 54, 54, 54, 54, 54, 54, 54, 54, 54, 54, 54, 54, 54, 54, 54, 54, 54, 54, 54, 54, 54, 54, 54, 54, 54, 54, 54, 54, 54, 54, 54, 54, 54, 54, 54, 54, 54, 54, 54, 54, 54, 54, 54, 54, 54, 54, 54, 54, 54, 54, 54, 54, 54, 54, 54, 54, 54, 54, 54, 54, 54, 68, 1, 0, 0, 0, 10, 115, 108, 111, 116, 32, 112, 97, 100, 32, 55] : List Nat).length) = [55, 54, 54, 54, 54, 54, 54, 54, 54, 54, 54, 54, 54, 54, 54, 54, 54, 54, 54, 54, 54, 54, 54, 54, 54, 54, 54, 54, 54, 54, 54, 54, 54, 54, 54, 54, 54, 54, 54, 54, 54, 54, 54, 54, 54, 54, 54, 54, 54, 54, 54, 54, 54, 54, 54, 54, 54, 54, 54, 54, 54, 54, 54, 54] ++ ([68, 1, 0, 0, 0, 10, 115, 108, 111, 116, 32, 112, 97, 100, 32, 55, 128, 0, 0, 0, 0, 0, 0, 0, 0, 0, 0, 0, 0, 0, 0, 0, 0, 0, 0, 0, 0, 0, 0, 0, 0, 0, 0, 0, 0, 0, 0, 0, 0, 0, 0, 0, 0, 0, 0, 0, 0, 0, 0, 0, 0, 0, 2, 128] ++ []) := by decide +kernel
  rw [e]
  unfold ShaM.seeds
  rw [ShaM.passes_block rfl, t_pad7_i_p0]
  rw [ShaM.passes_block rfl, t_pad7_i_p1]
  rw [ShaM.passes_short (by decide)]
theorem t_pad7_o_m0 : ShaM.sched (ShaM.at' [93, 92, 92, 92, 92, 92, 92, 92, 92, 92, 92, 92, 92, 92, 92, 92, 92, 92, 92, 92, 92, 92, 92, 92, 92, 92, 92, 92, 92, 92, 92, 92, 92, 92, 92, 92, 92, 92, 92, 92, 92, 92, 92, 92, 92, 92, 92, 92, 92, 92, 92, 92, 92, 92, 92, 92, 92, 92, 92, 92, 92, 92, 92, 92]) = [1566334044, 1549556828, 1549556828, 1549556828, 1549556828, 1549556828, 1549556828, 1549556828, 1549556828, 1549556828, 1549556828, 1549556828, 1549556828, 1549556828, 1549556828, 1549556828, 59740046, 42962830, 2467495729, 2467512273, 2100763696, 1427315712, 3395181014, 4054152442, 3941809152, 2826030956, 2370737465, 1546222069, 3987489067, 1588718117, 2595345901, 254193501, 2082906050, 3769447295, 166925975, 1761098494, 2458677331, 749371000, 1182103901, 2991589727, 2663052952, 2148191809, 3678399797, 2275608779, 1631805922, 1201471267, 973399833, 3134313413, 2594024864, 2049590653, 4098524652, 3719014378, 1458730396, 4194556254, 556316681, 2213799494, 2223269642, 2411574878, 3187314634, 1559194202, 3811519262, 3458855176, 397159170, 1056692164] := by decide +kernel
theorem t_pad7_o_s0 : ShaM.steps [1566334044, 1549556828, 1549556828, 1549556828, 1549556828, 1549556828, 1549556828, 1549556828, 1549556828, 1549556828, 1549556828, 1549556828, 1549556828, 1549556828, 1549556828, 1549556828, 59740046, 42962830, 2467495729, 2467512273, 2100763696, 1427315712, 3395181014, 4054152442, 3941809152, 2826030956, 2370737465, 1546222069, 3987489067, 1588718117, 2595345901, 254193501, 2082906050, 3769447295, 166925975, 1761098494, 2458677331, 749371000, 1182103901, 2991589727, 2663052952, 2148191809, 3678399797, 2275608779, 1631805922, 1201471267, 973399833, 3134313413, 2594024864, 2049590653, 4098524652, 3719014378, 1458730396, 4194556254, 556316681, 2213799494, 2223269642, 2411574878, 3187314634, 1559194202, 3811519262, 3458855176, 397159170, 1056692164] 64 ⟨1779033703, 3144134277, 1013904242, 2773480762, 1359893119, 2600822924, 528734635, 1541459225⟩ = ⟨1224886550, 479203453, 2342111237, 1802603661, 1057852940, 825656387, 2039681636, 1894463000⟩ := by decide +kernel
theorem t_pad7_o_p0 : ShaM.pass ⟨1779033703, 3144134277, 1013904242, 2773480762, 1359893119, 2600822924, 528734635, 1541459225⟩ (ShaM.at' [93, 92, 92, 92, 92, 92, 92, 92, 92, 92, 92, 92, 92, 92, 92, 92, 92, 92, 92, 92, 92, 92, 92, 92, 92, 92, 92, 92, 92, 92, 92, 92, 92, 92, 92, 92, 92, 92, 92, 92, 92, 92, 92, 92, 92, 92, 92, 92, 92, 92, 92, 92, 92, 92, 92, 92, 92, 92, 92, 92, 92, 92, 92, 92]) = ⟨3003920253, 3623337730, 3356015479, 281117127, 2417746059, 3426479311, 2568416271, 3435922225⟩ := by
  unfold ShaM.pass
  rw [t_pad7_o_m0, t_pad7_o_s0]
  rfl
theorem t_pad7_o_m1 : ShaM.sched (ShaM.at' [202, 78, 201, 104, 177, 34, 115, 196, 190, 186, 166, 55, 188, 112, 90, 114, 141, 71, 46, 33, 29, 18, 225, 90, 161, 77, 152, 138, 247, 45, 243, 67, 128, 0, 0, 0, 0, 0, 0, 0, 0, 0, 0, 0, 0, 0, 0, 0, 0, 0, 0, 0, 0, 0, 0, 0, 0, 0, 0, 0, 0, 0, 3, 0]) = [3394161000, 2971825092, 3199903287, 3161479794, 2370252321, 487776602, 2706217098, 4146983747, 2147483648, 0, 0, 0, 0, 0, 0, 768, 3456495679, 2217361896, 3914369755, 3197287227, 4045605486, 2402381314, 1802478150, 1897323943, 698049818, 2664144377, 2629235298, 2928105673, 915119731, 2999313803, 785464704, 2454113475, 2017751785, 1762437436, 493945743, 3089100620, 2501053983, 831466064, 3695777339, 1106288091, 1144002932, 2210032366, 3038516815, 3267727208, 1782452150, 1348489886, 1565918150, 3133290760, 491267214, 3609968492, 1823022635, 3101416764, 4278602176, 1304195984, 515773488, 4248138990, 1002509651, 2442382620, 3222014122, 1129561750, 1601576249, 529112868, 2955395177, 161796151] := by decide +kernel
theorem t_pad7_o_s1 : ShaM.steps [3394161000, 2971825092, 3199903287, 3161479794, 2370252321, 487776602, 2706217098, 4146983747, 2147483648, 0, 0, 0, 0, 0, 0, 768, 3456495679, 2217361896, 3914369755, 3197287227, 4045605486, 2402381314, 1802478150, 1897323943, 698049818, 2664144377, 2629235298, 2928105673, 915119731, 2999313803, 785464704, 2454113475, 2017751785, 1762437436, 493945743, 3089100620, 2501053983, 831466064, 3695777339, 1106288091, 1144002932, 2210032366, 3038516815, 3267727208, 1782452150, 1348489886, 1565918150, 3133290760, 491267214, 3609968492, 1823022635, 3101416764, 4278602176, 1304195984, 515773488, 4248138990, 1002509651, 2442382620, 3222014122, 1129561750, 1601576249, 529112868, 2955395177, 161796151] 64 ⟨3003920253, 3623337730, 3356015479, 281117127, 2417746059, 3426479311, 2568416271, 3435922225⟩ = ⟨2836553397, 3302158884, 708862232, 4151067072, 649881973, 3949660055, 1507411044, 4240042283⟩ := by decide +kernel
theorem t_pad7_o_p1 : ShaM.pass ⟨3003920253, 3623337730, 3356015479, 281117127, 2417746059, 3426479311, 2568416271, 3435922225⟩ (ShaM.at' [202, 78, 201, 104, 177, 34, 115, 196, 190, 186, 166, 55, 188, 112, 90, 114, 141, 71, 46, 33, 29, 18, 225, 90, 161, 77, 152, 138, 247, 45, 243, 67, 128, 0, 0, 0, 0, 0, 0, 0, 0, 0, 0, 0, 0, 0, 0, 0, 0, 0, 0, 0, 0, 0, 0, 0, 0, 0, 0, 0, 0, 0, 3, 0]) = ⟨1545506354, 2630529318, 4064877711, 137216903, 3067628032, 3081172070, 4075827315, 3380997212⟩ := by
  unfold ShaM.pass
  rw [t_pad7_o_m1, t_pad7_o_s1]
  rfl
theorem t_pad7_o : ShaM.sum [93, 92, 92, 92, 92, 92, 92, 92, 92, 92, 92, 92, 92, 92, 92, 92, 92, 92, 92, 92, 92, 92, 92, 92, 92, 92, 92, 92, 92, 92, 92, 92, 92, 92, 92, 92, 92, 92, 92, 92, 92, 92, 92, 92, 92, 92, 92, 92, 92, 92, 92, 92, 92, 92, 92, 92, 92, 92, 92, 92, 92, 92, 92, 92, 202, 78, 201, 104, 177, 34, 115, 196, 190, 186, 166, 55, 188, 112, 90, 114, 141, 71, 46, 33, 29, 18, 225, 90, 161, 77, 152, 138, 247, 45, 243, 67] = ShaM.digest ⟨1545506354, 2630529318, 4064877711, 137216903, 3067628032, 3081172070, 4075827315, 3380997212⟩ := by
  unfold ShaM.sum ShaM.ended
  have e : [93, 92, 92, 92, 92, 92, 92, 92, 92, 92, 92, 92, 92, 92, 92, 92, 92, 92, 92, 92, 92, 92, 92, 92, 92, 92, 92, 92, 92, 92, 92, 92, 92, 92, 92, 92, 92, 92, 92, 92, 92, 92, 92, 92, 92, 92, 92, 92, 92, 92, 92, 92, 92, 92, 92, 92, 92, 92, 92, 92, 92, 92, 92, 92, 202, 78, 201, 104, 177, 34, 115, 196, 190, 186, 166, 55, 188, 112, 90, 114, 141, 71, 46, 33, 29, 18, 225, 90, 161, 77, 152, 138, 247, 45, 243, 67] ++ ShaM.tail (0 + ([93, 92, 92, 92, 92, 92, 92, 92, 92, 92, 92, 92, 92, 92, 92, 92, 92, 92, 92, 92, 92, 92, 92, 92, 92, 92, 92, 92, 92, 92, 92, 92, 92, 92, 92, 92, 92, 92, 92, 92, 92, 92, 92, 92, 92, 92, 92, 92, 92, 92, 92, 92, 92, 92, 92, 92, 92, 92, 92, 92, 92, 92, 92, 92, 202, 78, 201, 104, 177, 34, 115, 196, 190, 186, 166, 55, 188, 112, 90, 114, 141, 71, 46, 33, 29, 18, 225, 90, 161, 77, 152, 138, 247, 45, 243, 67] : List Nat).length) = [93, 92, 92, 92, 92, 92, 92, 92, 92, 92, 92, 92, 92, 92, 92, 92, 92, 92, 92, 92, 92, 92, 92, 92, 92, 92, 92, 92, 92, 92, 92, 92, 92, 92, 92, 92, 92, 92, 92, 92, 92, 92, 92, 92, 92, 92, 92, 92, 92, 92, 92, 92, 92, 92, 92, 92, 92, 92, 92, 92, 92, 92, 92, 92] ++ ([202, 78, 201, 104, 177, 34, 115, 196, 190, 186, 166, 55, 188, 112, 90, 114, 141, 71, 46, 33, 29, 18, 225, 90, 161, 77, 152, 138, 247, 45, 243, 67, 128, 0, 0, 0, 0, 0, 0, 0, 0, 0, 0, 0, 0, 0, 0, 0, 0, 0, 0, 0, 0, 0, 0, 0, 0, 0, 0, 0, 0, 0, 3, 0] ++ []) := by decide +kernel
  rw [e]
  unfold ShaM.seeds
  rw [ShaM.passes_block rfl, t_pad7_o_p0]
  rw [ShaM.passes_block rfl, t_pad7_o_p1]
  rw [ShaM.passes_short (by decide)]
theorem t_pad7 : HmM.tag [1, 0, 0, 0, 0, 0, 0, 0, 0, 0, 0, 0, 0, 0, 0, 0, 0, 0, 0, 0, 0, 0, 0, 0, 0, 0, 0, 0, 0, 0, 0, 0] [68, 1, 0, 0, 0, 10, 115, 108, 111, 116, 32, 112, 97, 100, 32, 55] = ShaM.digest ⟨1545506354, 2630529318, 4064877711, 137216903, 3067628032, 3081172070, 4075827315, 3380997212⟩ := by
  unfold HmM.tag
  have e1 : HmM.pad 54 (HmM.blk [1, 0, 0, 0, 0, 0, 0, 0, 0, 0, 0, 0, 0, 0, 0, 0, 0, 0, 0, 0, 0, 0, 0, 0, 0, 0, 0, 0, 0, 0, 0, 0]) ++ [68, 1, 0, 0, 0, 10, 115, 108, 111, 116, 32, 112, 97, 100, 32, 55] = [55, 54, 54, 54, 54, 54, 54, 54, 54, 54, 54, 54, 54, 54, 54, 54, 54, 54, 54, 54, 54, 54, 54, 54, 54, 54, 54, 54, 54, 54, 54, 54, 54, 54, 54, 54, 54, 54, 54, 54, 54, 54, 54, 54, 54, 54, 54, 54, 54, 54, 54, 54, 54, 54, 54, 54, 54, 54, 54, 54, 54, 54, 54, 54, 68, 1, 0, 0, 0, 10, 115, 108, 111, 116, 32, 112, 97, 100, 32, 55] := by decide +kernel
  have e2 : HmM.pad 92 (HmM.blk [1, 0, 0, 0, 0, 0, 0, 0, 0, 0, 0, 0, 0, 0, 0, 0, 0, 0, 0, 0, 0, 0, 0, 0, 0, 0, 0, 0, 0, 0, 0, 0]) = [93, 92, 92, 92, 92, 92, 92, 92, 92, 92, 92, 92, 92, 92, 92, 92, 92, 92, 92, 92, 92, 92, 92, 92, 92, 92, 92, 92, 92, 92, 92, 92, 92, 92, 92, 92, 92, 92, 92, 92, 92, 92, 92, 92, 92, 92, 92, 92, 92, 92, 92, 92, 92, 92, 92, 92, 92, 92, 92, 92, 92, 92, 92, 92] := by decide +kernel
  have e3 : HmM.dl (ShaM.digest ⟨3394161000, 2971825092, 3199903287, 3161479794, 2370252321, 487776602, 2706217098, 4146983747⟩) = [202, 78, 201, 104, 177, 34, 115, 196, 190, 186, 166, 55, 188, 112, 90, 114, 141, 71, 46, 33, 29, 18, 225, 90, 161, 77, 152, 138, 247, 45, 243, 67] := by decide +kernel
  have e4 : [93, 92, 92, 92, 92, 92, 92, 92, 92, 92, 92, 92, 92, 92, 92, 92, 92, 92, 92, 92, 92, 92, 92, 92, 92, 92, 92, 92, 92, 92, 92, 92, 92, 92, 92, 92, 92, 92, 92, 92, 92, 92, 92, 92, 92, 92, 92, 92, 92, 92, 92, 92, 92, 92, 92, 92, 92, 92, 92, 92, 92, 92, 92, 92] ++ [202, 78, 201, 104, 177, 34, 115, 196, 190, 186, 166, 55, 188, 112, 90, 114, 141, 71, 46, 33, 29, 18, 225, 90, 161, 77, 152, 138, 247, 45, 243, 67] = [93, 92, 92, 92, 92, 92, 92, 92, 92, 92, 92, 92, 92, 92, 92, 92, 92, 92, 92, 92, 92, 92, 92, 92, 92, 92, 92, 92, 92, 92, 92, 92, 92, 92, 92, 92, 92, 92, 92, 92, 92, 92, 92, 92, 92, 92, 92, 92, 92, 92, 92, 92, 92, 92, 92, 92, 92, 92, 92, 92, 92, 92, 92, 92, 202, 78, 201, 104, 177, 34, 115, 196, 190, 186, 166, 55, 188, 112, 90, 114, 141, 71, 46, 33, 29, 18, 225, 90, 161, 77, 152, 138, 247, 45, 243, 67] := by decide +kernel
  rw [e1, t_pad7_i, e2, e3, e4, t_pad7_o]
def one1 (x : Nat) : Nat → Nat := fun i => if i = 0 then x else 0
def sSlot : ByteArray := ⟨#[115, 108, 111, 116]⟩
theorem nats_pad7 : nats (lab sSlot wPad 7) = [115, 108, 111, 116, 32, 112, 97, 100, 32, 55] := by decide +kernel
theorem dl_one1 : HmM.dl (one1 1) = [1, 0, 0, 0, 0, 0, 0, 0, 0, 0, 0, 0, 0, 0, 0, 0, 0, 0, 0, 0, 0, 0, 0, 0, 0, 0, 0, 0, 0, 0, 0, 0] := by decide +kernel
theorem rowD_pad7 : DvP.rowD (lab sSlot wPad 7) = [68, 1, 0, 0, 0, 10, 115, 108, 111, 116, 32, 112, 97, 100, 32, 55] := by
  unfold DvP.rowD
  rw [nats_pad7]
  decide +kernel
theorem pad7_first : pad (one1 1) sSlot 7 0 = 92 := by
  unfold pad DvP.sub
  rw [dl_one1, rowD_pad7, t_pad7]
  decide +kernel
end BxP
end Go.Proofs.YtdfoehcdabmagaaDoor
set_option maxRecDepth 100000
namespace Go.Proofs.YtdfoehcdabmagaaDoor
open Go.ChangeShapes Go.WideShapes Go.ChangeAt Go.RowKit
section
variable {ops : Array Oper} {Q : Exit → Act → World → Prop} {a : Act} {w : World} {rest : List Oper} {dst : Option Tmp} {ty : TypeId} {pos : String} {after : Array Edge} {n : Nat} {f : Nat → Nat} {T : TypeId}
theorem bldZr (hz : Tryd.prog.built T [] = some (ar n fun _ => 0)) (hk : wpList Tryd.prog ops Q rest (a.put dst (.agg (ar n fun _ => 0))) w) :
    wpList Tryd.prog ops Q (⟨dst, .build T #[], ty, pos, after, none⟩ :: rest) a w := by
  have hr : (Instr.build T #[]).run Tryd.prog w = .ok (.agg (ar n fun _ => 0)) w := run_build w _ _ _ hz
  refine wpList_plain rfl fun K hK => ?_
  unfold Oper.wp execOp
  simp [hr, Result.andThen]
  exact hK _ _ hk
theorem retA {t : TypeId} {h : Nat} {fn : Func} {R : Ending → World → Prop} {p q : Tmp} {v : Value} (hT : ArT T n) (hr : fn.results = #[.cell p T, .tmp q]) (hp : a.tmps.getD p undef = .pointer (some ⟨h, 0, none⟩)) (hq : a.tmps.getD q undef = v)
    (hdf : a.defers = []) (hb : Blk w h t (ar n f)) (hR : R (.returned (.tuple #[.agg (ar n f), v])) w) : bodyPost Tryd.prog fn R .ret a w := by
  refine bodyPost_ret ?_ hdf hR
  have hp' : a.tmps[p]?.getD undef = .pointer (some ⟨h, 0, none⟩) := by simpa using hp
  have hq' : a.tmps[q]?.getD undef = v := by simpa using hq
  simp [results, hr, hp', hq', asAddr, run_ar_var hT hb]
theorem bldOneL {T : TypeId} {parts : Array (Nat × Operand)} {cs : Array Value} (hb : ∀ w, (Instr.build T (parts.map fun (i, x) => (i, a.eval x))).run Tryd.prog w = .ok (.agg cs) w) (h : wpList Tryd.prog ops Q rest (a.put dst (.agg cs)) w) :
    wpList Tryd.prog ops Q (⟨dst, .build T parts, ty, pos, after, none⟩ :: rest) a w := by
  refine wpList_plain rfl fun K hK => ?_
  unfold Oper.wp execOp
  simp only [Sem.run_bind, hb, Result.andThen_ok, Sem.run_pure]
  exact hK _ _ h
theorem map_oneC (i : Nat) (v : Value) (a : Act) : (#[(i, Operand.const v)] : Array (Nat × Operand)).map (fun (i, x) => (i, a.eval x)) = #[(i, v)] := by
  simp only [List.map_toArray, List.map_cons, List.map_nil]; rfl
theorem run_st_ar {g : Nat} {t : TypeId} {f0 : Nat → Nat} (hT : ArT T n) (hb : Blk w g t (ar n f0)) (F : Nat → Nat) : (Instr.storeAt T (.pointer (some ⟨g, 0, none⟩)) (.agg (ar n F))).run Tryd.prog w = .ok () (w.setRow g (ar n F)) := by
  have h1 := run_storeVar_row (P := Tryd.prog) w g t T (ar n f0) (ar n F) hb (hT.size.trans (by rw [size_ar])) (by rw [size_ar, size_ar]) ar_one
  simp only [Instr.storeAt, Instr.sureAddr, Sem.run_bind, h1, Result.andThen_ok, Sem.run_pure]
/-- A row stored into a greater one. -/
theorem stArM {t : TypeId} {g o N m : Nat} {h : Nat → Nat} {x y : Operand} (hT : ArT T m) (hx : a.eval x = .pointer (some ⟨g, o, none⟩)) (hy : a.eval y = .agg (ar m h)) (hb : Blk w g t (ar N f)) (hm : o + m ≤ N)
    (hk : wpList Tryd.prog ops Q rest (a.put dst undef) (w.setCells g o (ar m h).toList)) : wpList Tryd.prog ops Q (⟨dst, .store T x y, ty, pos, after, none⟩ :: rest) a w :=
  wpList_store_mid rfl T x y rfl g o (ar m h) hx hy (by rw [size_ar]; exact hb.there hm) (hT.size.trans (by rw [size_ar])) ar_one hk
/-- A literal of one constant part. -/
theorem bldOne {T : TypeId} {i : Nat} {v : Value} {cs : Array Value} (hb : ∀ w, (Instr.build T #[(i, v)]).run Tryd.prog w = .ok (.agg cs) w) (h : wpList Tryd.prog ops Q rest (a.put dst (.agg cs)) w) :
    wpList Tryd.prog ops Q (⟨dst, .build T #[(i, .const v)], ty, pos, after, none⟩ :: rest) a w := bldOneL (fun w => by rw [map_oneC]; exact hb w) h
end
end Go.Proofs.YtdfoehcdabmagaaDoor
set_option maxRecDepth 100000
namespace Go.Proofs.YtdfoehcdabmagaaDoor
open Go.ChangeShapes Go.WideShapes Go.ChangeAt Go.RowKit
attribute [local go_sem] Gives GivesE
theorem gE_ldA {a : Act} {w : World} {dst : Option Tmp} {ty : TypeId} {pos : String} {after : Array Edge} {x : Operand} {g o n : Nat} {f : Nat → Nat} {T : TypeId} {gd : Option (Nat × Bool)} {R : Value → World → Prop} (hT : ArT T n) (hx : a.eval x = .pointer (some ⟨g, o, none⟩)) (hb : w.rangeAt g o (ar n f).toList) (hR : R (.agg (ar n f)) w) : GivesE Tryd.prog ⟨dst, .load T x, ty, pos, after, gd⟩ a w R := by
  unfold GivesE
  simp only [execOp, hx, Sem.run_bind, run_ldm hT hb, Result.andThen_ok, Sem.run_pure]
  exact hR
section
variable {a : Act} {w : World} {dst : Option Tmp} {ty r : TypeId} {pos : String} {after : Array Edge} {x y : Operand} {f g : Nat → Nat} {gd : Option (Nat × Bool)} {R : Value → World → Prop} {T : TypeId} {n : Nat}
theorem exec_eqU (hT : Tryd.prog.underlying T = some (.array n 5)) (hg : Tryd.prog.eqGuardType Tryd.prog.depth T = false) (hx : a.eval x = .agg (ar n f)) (hy : a.eval y = .agg (ar n g)) : (execOp a.eval ⟨dst, .binOp .eql T x y r, ty, pos, after, gd⟩).run Tryd.prog w = .ok (.value (.bool (eqA n f g))) w := by
  have h1 : (eqGuard .eql T x y (.agg (ar n f)) (.agg (ar n g))).run Tryd.prog w = .ok () w := by
    simp [eqGuard, hg, go_sem]
  simp only [execOp, hx, hy, Sem.run_bind, h1, run_eql_ar hT, Result.andThen_ok, Sem.run_pure]
theorem gE_eqU (hT : Tryd.prog.underlying T = some (.array n 5)) (hg : Tryd.prog.eqGuardType Tryd.prog.depth T = false) (hx : a.eval x = .agg (ar n f)) (hy : a.eval y = .agg (ar n g)) (hR : R (.bool (eqA n f g)) w) : GivesE Tryd.prog ⟨dst, .binOp .eql T x y r, ty, pos, after, gd⟩ a w R := by
  unfold GivesE
  rw [exec_eqU hT hg hx hy]
  exact hR
end
section
variable {ops : Array Oper} {a : Act} {rest : List Oper} {dst : Option Tmp} {ty r : TypeId} {pos : String} {after : Array Edge} {x y : Operand} {f g : Nat → Nat} {gd : Option (Nat × Bool)} {C : World → Prop} {Qk : Act → Prop} {T : TypeId} {n : Nat}
theorem keqU (b : Bool) (hT : Tryd.prog.underlying T = some (.array n 5)) (hg : Tryd.prog.eqGuardType Tryd.prog.depth T = false) (hwt : Region.wanted ⟨dst, .binOp .eql T x y r, ty, pos, after, gd⟩ (yielded ops a.tmps) = true) (hx : a.eval x = .agg (ar n f)) (hy : a.eval y = .agg (ar n g)) (hb : eqA n f g = b)
    (h : wpK Tryd.prog ops C Qk rest (a.put dst (.bool b))) : wpK Tryd.prog ops C Qk (⟨dst, .binOp .eql T x y r, ty, pos, after, gd⟩ :: rest) a :=
  wpK_val hwt (fun w hw => gives_value (w' := w) (by rw [exec_eqU hT hg hx hy, hb]) hw) h
theorem kneU (b : Bool) (hT : Tryd.prog.underlying T = some (.array n 5)) (hg : Tryd.prog.eqGuardType Tryd.prog.depth T = false) (hwt : Region.wanted ⟨dst, .binOp .neq T x y r, ty, pos, after, gd⟩ (yielded ops a.tmps) = true) (hx : a.eval x = .agg (ar n f)) (hy : a.eval y = .agg (ar n g)) (hb : (!eqA n f g) = b)
    (h : wpK Tryd.prog ops C Qk rest (a.put dst (.bool b))) : wpK Tryd.prog ops C Qk (⟨dst, .binOp .neq T x y r, ty, pos, after, gd⟩ :: rest) a :=
  wpK_val hwt (fun w hw => gives_value (w' := w) (by
    have h1 : (eqGuard .neq T x y (.agg (ar n f)) (.agg (ar n g))).run Tryd.prog w = .ok () w := by
      simp [eqGuard, hg, go_sem]
    simp only [execOp, hx, hy, Sem.run_bind, h1, run_neq_ar hT, Result.andThen_ok, Sem.run_pure, hb]) hw) h
/-- A literal of one constant part, in such a region. -/
theorem kbldOne {i : Nat} {v : Value} {cs : Array Value} (hwt : Region.wanted ⟨dst, .build T #[(i, .const v)], ty, pos, after, gd⟩ (yielded ops a.tmps) = true) (hb : ∀ w, (Instr.build T #[(i, v)]).run Tryd.prog w = .ok (.agg cs) w)
    (h : wpK Tryd.prog ops C Qk rest (a.put dst (.agg cs))) : wpK Tryd.prog ops C Qk (⟨dst, .build T #[(i, .const v)], ty, pos, after, gd⟩ :: rest) a :=
  wpK_val hwt (fun w hw => gives_value (w' := w) (by
    have e : (#[(i, Operand.const v)] : Array (Nat × Operand)).map (fun (i, x) => (i, a.eval x)) = #[(i, v)] := by simp only [List.map_toArray, List.map_cons, List.map_nil]; rfl
    simp only [execOp, Sem.run_bind, e, hb, Result.andThen_ok, Sem.run_pure]) hw) h
/-- A literal of no part. -/
theorem kbldZ {cs : Array Value} (hwt : Region.wanted ⟨dst, .build T #[], ty, pos, after, gd⟩ (yielded ops a.tmps) = true) (hb : ∀ w, (Instr.build T #[]).run Tryd.prog w = .ok (.agg cs) w)
    (h : wpK Tryd.prog ops C Qk rest (a.put dst (.agg cs))) : wpK Tryd.prog ops C Qk (⟨dst, .build T #[], ty, pos, after, gd⟩ :: rest) a :=
  wpK_val hwt (fun w hw => gives_value (w' := w) (by
    have e : (#[] : Array (Nat × Operand)).map (fun (i, x) => (i, a.eval x)) = #[] := by simp
    simp only [execOp, Sem.run_bind, e, hb, Result.andThen_ok, Sem.run_pure]) hw) h
end
namespace DvP
theorem uK : Tryd.prog.underlying 23 = some (.array 32 5) := Tryd.underlying23
theorem cells_K : Tryd.prog.cellsOf 23 = 32 := by kernel_rfl
theorem eqg_key : Tryd.prog.eqGuardType Tryd.prog.depth 23 = false := by kernel_rfl
end DvP
end Go.Proofs.YtdfoehcdabmagaaDoor
set_option maxRecDepth 100000
namespace Go.Proofs.YtdfoehcdabmagaaDoor
open Go.ChangeShapes Go.WideShapes Go.ChangeAt Go.RowKit
open DvP (tK tT sub uK eqg_key)
attribute [local go_sem] Gives GivesE
namespace BxP
/-- The box that a key is wrapped into. -/
def boxF (k : Nat → Nat) (s : ByteArray) (n : Nat) (x : Nat → Nat) : Nat → Nat := duo (xorF x (pad k s n)) (tagB k s n (xorF x (pad k s n)))
structure BoxC : Prop where
  wrap : ∀ (k x : Nat → Nat), (∀ i, k i < 256) → (∀ i, x i < 256) → ∀ s : ByteArray, s.size ≤ 100 → ∀ n : Nat, n < 18446744073709551616 → ∀ w, Salts w →
    Calls Tryd.prog 8 #[.agg (ar 32 k), .string s, .int .u64 n, .agg (ar 32 x)] w fun e w' => e = .returned (.agg (ar 64 (boxF k s n x))) ∧ Below w.heap.size w w'
  unwrap : ∀ (k f g : Nat → Nat), (∀ i, k i < 256) → (∀ i, f i < 256) → (∀ i, g i < 256) → ∀ s : ByteArray, s.size ≤ 100 → ∀ n : Nat, n < 18446744073709551616 → ∀ bt, eqA 32 (tagB k s n f) g = bt → ∀ w, Salts w →
    Calls Tryd.prog 11 #[.agg (ar 32 k), .string s, .int .u64 n, .agg (ar 64 (duo f g))] w fun e w' => e = .returned (.tuple #[.agg (ar 32 (if bt then xorF f (pad k s n) else fun _ => 0)), .int .i64 (if bt then 0 else 12)]) ∧ Below w.heap.size w w'
  put : ∀ (A : Option Addr) (l : List Nat) (n cap : Nat), n ≤ 10000 → ∀ f g : Nat → Nat, (∀ i, f i < 256) → (∀ i, g i < 256) → ∀ w, Arg w A l n cap →
    Calls Tryd.prog 14 #[.slice A n cap, .agg (ar 64 (duo f g))] w fun e w' => ∃ v, e = .returned v ∧ Own 5 .u8 w' w.heap.size v (l ++ HmM.dl f ++ HmM.dl g) ∧ Below w.heap.size w w'
  few : ∀ (A : Option Addr) (n cap : Nat), n < 64 → ∀ w, (∃ l, Arg w A l n cap) →
    Calls Tryd.prog 15 #[.slice A n cap] w fun e w' => ∃ v, e = .returned (.tuple #[.agg (ar 64 fun _ => 0), v, .int .i64 4]) ∧ Own 5 .u8 w' w.heap.size v [] ∧ Below w.heap.size w w'
  get : ∀ (A : Option Addr) (l : List Nat) (n cap : Nat), 64 ≤ n → n ≤ 100000 → ∀ w, Arg w A l n cap →
    Calls Tryd.prog 15 #[.slice A n cap] w fun e w' => ∃ v, e = .returned (.tuple #[.agg (ar 64 fun j => l.getD j 0), v, .int .i64 0]) ∧ Own 5 .u8 w' w.heap.size v (l.drop 64) ∧ Below w.heap.size w w'
theorem one1_lt {x : Nat} (h : x < 256) : ∀ i, one1 x i < 256 := fun i => by unfold one1; split <;> omega
theorem built_k1 (w : World) : (Instr.build 23 #[(0, .int .u8 1)]).run Tryd.prog w = .ok (.agg (ar 32 (one1 1))) w := run_build w _ _ _ (by kernel_rfl)
theorem built_k2 (w : World) : (Instr.build 23 #[(0, .int .u8 2)]).run Tryd.prog w = .ok (.agg (ar 32 (one1 2))) w := run_build w _ _ _ (by kernel_rfl)
theorem xor_back (x p : Nat → Nat) : xorF (xorF x p) p = x := by
  funext i
  unfold xorF
  rw [Nat.xor_assoc, Nat.xor_self, Nat.xor_zero]
theorem box_lt {k x : Nat → Nat} (hx : ∀ i, x i < 256) (s : ByteArray) (n : Nat) : (∀ i, xorF x (pad k s n) i < 256) ∧ ∀ i, tagB k s n (xorF x (pad k s n)) i < 256 := ⟨xorF_lt hx (sub_lt _ _), tagB_lt _ _ _ _⟩
set_option maxHeartbeats 800000 in
set_option maxRecDepth 100000 in
theorem works_any (hC : BoxC) (w : World) (hS : Salts w) :
    Calls Tryd.prog 13 #[] w fun e w' => e = .returned (.bool true) ∧ Below w.heap.size w w' := by
  have SA := hid hS
  have HC := hid hC
  obtain ⟨D, hD⟩ : ∃ D, D = xorF (one1 2) (pad (one1 1) sSlot 7) := ⟨_, rfl⟩
  obtain ⟨G, hG⟩ : ∃ G, G = tagB (one1 1) sSlot 7 D := ⟨_, rfl⟩
  have HB := hid (show boxF (one1 1) sSlot 7 (one1 2) = duo D G by rw [hG, hD]; rfl)
  have HDl := hid (show ∀ i, D i < 256 by rw [hD]; exact xorF_lt (one1_lt (by omega)) (sub_lt _ _))
  have HGl := hid (show ∀ i, G i < 256 by rw [hG]; exact tagB_lt _ _ _ _)
  have HT := hid (show eqA 32 (tagB (one1 1) sSlot 7 D) G = true by rw [hG]; exact eqA_yes fun _ _ => rfl)
  have HX := hid (show xorF D (pad (one1 1) sSlot 7) = one1 2 by rw [hD]; exact xor_back _ _)
  have HN := hid (show eqA 32 D (one1 2) = false by
    refine eqA_no fun h => ?_
    have := h 0 (by omega)
    rw [hD] at this
    unfold xorF at this
    rw [pad7_first] at this
    exact absurd this (by decide))
  clear hS hC hD hG
  go_enter Tryd.func13, Tryd.ntmps13
  go_wp2_with (first | (with_reducible apply bldOne built_k1) | (with_reducible apply bldOne built_k2))
  refine (HC.out.wrap (one1 1) (one1 2) (one1_lt (by omega)) (one1_lt (by omega)) sSlot (by decide) 7 (by omega) w SA.out).mono ?_
  rintro e w1 ⟨rfl, h1⟩
  rw [HB.out]
  obtain ⟨g1, hg1⟩ : ∃ g1, g1 = w1.heap.size := ⟨_, rfl⟩
  go_upto_region 2 with (first | (with_reducible apply alA tBox) | ((with_reducible apply stA tBox); rfl; rfl; exact Blk.new _ _ _))
  rw [← hg1]
  generalize hw3 : World.setRow _ _ _ = w3
  have b1 := hid (show Blk w3 g1 29 (ar 64 (duo D G)) by rw [← hw3, hg1]; exact (Blk.new w1 _ _).setRow_same _)
  have BEL := hid (show Below w.heap.size w w3 by rw [← hw3]; exact below_setRow (h1.alloc h1.size _) (by rw [hg1]; exact h1.size) _)
  have sa := hid (SA.out.on BEL.out)
  have hlw : w.heap.size ≤ g1 := by rw [hg1]; exact h1.size
  clear hw3 h1 SA hg1
  go_wp2_with (first | (with_reducible apply bldOne built_k1) | ((with_reducible apply ldA tBox); rfl; exact b1.out))
  refine (HC.out.unwrap (one1 1) D G (one1_lt (by omega)) HDl.out HGl.out sSlot (by decide) 7 (by omega) true HT.out w3 sa.out).mono ?_
  rintro e w4 ⟨rfl, h4⟩
  rw [if_pos rfl, if_pos rfl, HX.out]
  have b4 := hid (b1.out.below h4 b1.out.lt)
  have B4 := hid (BEL.out.trans (h4.mono BEL.out.size))
  have hl4 := b4.out.lt
  clear b1 BEL sa h4
  obtain ⟨g2, hg2⟩ : ∃ g2, g2 = w4.heap.size := ⟨_, rfl⟩
  go_upto_region 3 with (first | (with_reducible apply alA tK) | ((with_reducible apply stA tK); rfl; rfl; exact Blk.new _ _ _))
  rw [← hg2]
  generalize hw5 : World.setRow _ _ _ = w5
  have b5 := hid (show Blk w5 g1 29 (ar 64 (duo D G)) by rw [← hw5]; exact (b4.out.alloc _).setRow_other (by omega) _)
  have k5 := hid (show Blk w5 g2 23 (ar 32 (one1 2)) by rw [← hw5, hg2]; exact (Blk.new w4 _ _).setRow_same _)
  have B5 := hid (show Below w.heap.size w w5 by rw [← hw5]; exact below_setRow (B4.out.alloc B4.out.size _) (by rw [hg2]; exact B4.out.size) _)
  clear hw5 b4 B4 hg2 hl4
  refine wp_region_fixed (C := fun w' => Below w5.heap.size w5 w') 13 (Below.refl _ _) ?_
  simp only [List.take_succ_cons, List.take_zero, List.drop_succ_cons, List.drop_zero]
  apply wpK_val
  · rfl
  · intro w' hw'
    go_simp
    first | exact rfl | exact ⟨rfl, hw'⟩
  simp only [Act.put, List.setIfInBounds_toArray, List.set_cons_succ, List.set_cons_zero]
  apply wpK_val
  · rfl
  · intro w' hw'
    go_simp
    first | exact rfl | exact ⟨rfl, hw'⟩
  simp only [Act.put, List.setIfInBounds_toArray, List.set_cons_succ, List.set_cons_zero]
  apply wpK_val
  · rfl
  · intro w' hw'
    go_simp
    first | exact rfl | exact ⟨rfl, hw'⟩
  simp only [Act.put, List.setIfInBounds_toArray, List.set_cons_succ, List.set_cons_zero]
  apply kldA tK
  · rfl
  · rfl
  · exact fun w' hw' => (k5.out.below hw' k5.out.lt).head
  simp only [Act.put, List.setIfInBounds_toArray, List.set_cons_succ, List.set_cons_zero]
  apply kbldOne (hb := built_k2)
  · rfl
  simp only [Act.put, List.setIfInBounds_toArray, List.set_cons_succ, List.set_cons_zero]
  apply keqU true uK eqg_key
  · rfl
  · rfl
  · rfl
  · exact eqA_yes fun _ _ => rfl
  simp only [Act.put, List.setIfInBounds_toArray, List.set_cons_succ, List.set_cons_zero]
  apply wpK_val
  · rfl
  · intro w' hw'
    go_simp
    first | exact rfl | exact ⟨rfl, hw'⟩
  simp only [Act.put, List.setIfInBounds_toArray, List.set_cons_succ, List.set_cons_zero]
  apply wpK_val
  · rfl
  · intro w' hw'
    go_simp
    first | exact rfl | exact ⟨rfl, hw'⟩
  simp only [Act.put, List.setIfInBounds_toArray, List.set_cons_succ, List.set_cons_zero]
  apply wpK_val
  · rfl
  · intro w' hw'
    go_simp
    first | exact rfl | exact ⟨rfl, hw'⟩
  simp only [Act.put, List.setIfInBounds_toArray, List.set_cons_succ, List.set_cons_zero]
  apply kldA tK
  · rfl
  · rfl
  · exact fun w' hw' => duo_at0 (b5.out.below hw' b5.out.lt)
  simp only [Act.put, List.setIfInBounds_toArray, List.set_cons_succ, List.set_cons_zero]
  apply kldA tK
  · rfl
  · rfl
  · exact fun w' hw' => (k5.out.below hw' k5.out.lt).head
  simp only [Act.put, List.setIfInBounds_toArray, List.set_cons_succ, List.set_cons_zero]
  apply kneU true uK eqg_key
  · rfl
  · rfl
  · rfl
  · exact by rw [HN.out]; rfl
  simp only [Act.put, List.setIfInBounds_toArray, List.set_cons_succ, List.set_cons_zero]
  apply wpK_val
  · rfl
  · intro w' hw'
    go_simp
    first | exact rfl | exact ⟨rfl, hw'⟩
  simp only [Act.put, List.setIfInBounds_toArray, List.set_cons_succ, List.set_cons_zero]
  refine wpK_nil fun w6 hw6 => ?_
  have B6 := hid (B5.out.trans (hw6.mono B5.out.size))
  clear b5 k5 B5 hw6
  go_wp2_with fail
  go_ret
  exact ⟨rfl, B6.out⟩
end BxP
end Go.Proofs.YtdfoehcdabmagaaDoor
set_option maxRecDepth 100000
namespace Go.Proofs.YtdfoehcdabmagaaDoor
open Go.ChangeShapes Go.WideShapes Go.ChangeAt Go.RowKit
attribute [local go_sem] Gives
/-- A type of n cells, one behind the other. -/
structure RowT (T : TypeId) (n : Nat) : Prop where
  size : (Tryd.prog.info? T).map (·.size) = some n
  desc : ∃ d, Tryd.prog.underlying T = some d ∧ d.isRow = true
section
variable {ops : Array Oper} {Q : Exit → Act → World → Prop} {a : Act} {w : World} {rest : List Oper} {dst : Option Tmp} {ty : TypeId} {pos : String} {after : Array Edge} {x y : Operand} {g o n : Nat} {cs : Array Value} {T : TypeId} {C : World → Prop} {Qk : Act → Prop} {gd : Option (Nat × Bool)}
theorem run_ldR (hT : RowT T cs.size) (hb : w.rangeAt g o cs.toList) : (Instr.loadAt T (.pointer (some ⟨g, o, none⟩))).run Tryd.prog w = .ok (.agg cs) w := by
  obtain ⟨d, h1, h2⟩ := hT.desc
  have := run_loadAt_mid (P := Tryd.prog) w g o T cs.toList _ hb h1 h2 (hT.size.trans (by rw [Array.length_toList]))
  rwa [Array.toArray_toList] at this
theorem Blk.whole {t : TypeId} (h : Blk w g t cs) : w.rangeAt g 0 cs.toList := fun j v hj => by
  rw [Nat.zero_add, h.cell]; rwa [Array.getElem?_toList] at hj
theorem ldR (hT : RowT T cs.size) (hx : a.eval x = .pointer (some ⟨g, o, none⟩)) (hb : w.rangeAt g o cs.toList) (h : wpList Tryd.prog ops Q rest (a.put dst (.agg cs)) w) :
    wpList Tryd.prog ops Q (⟨dst, .load T x, ty, pos, after, none⟩ :: rest) a w := by
  obtain ⟨d, h1, h2⟩ := hT.desc
  exact step_load_mid hb h1 h2 (hT.size.trans (by rw [Array.length_toList])) hx (by rw [Array.toArray_toList]; exact h)
theorem stR {t : TypeId} {old : Array Value} (hT : RowT T cs.size) (hx : a.eval x = .pointer (some ⟨g, 0, none⟩)) (hy : a.eval y = .agg cs) (hb : Blk w g t old) (hs : old.size = cs.size) (h1 : cs.all (·.oneCell') = true) (h : wpList Tryd.prog ops Q rest (a.put dst undef) (w.setRow g cs)) :
    wpList Tryd.prog ops Q (⟨dst, .store T x y, ty, pos, after, none⟩ :: rest) a w :=
  step_store_row hb hT.size hs h1 hx hy h
theorem kldR (hT : RowT T cs.size) (hwt : Region.wanted ⟨dst, .load T x, ty, pos, after, gd⟩ (yielded ops a.tmps) = true) (hx : a.eval x = .pointer (some ⟨g, o, none⟩)) (hb : ∀ w, C w → w.rangeAt g o cs.toList) (h : wpK Tryd.prog ops C Qk rest (a.put dst (.agg cs))) :
    wpK Tryd.prog ops C Qk (⟨dst, .load T x, ty, pos, after, gd⟩ :: rest) a :=
  wpK_val hwt (fun w hw => gives_value (w' := w) (by simp only [execOp, hx, Sem.run_bind, run_ldR hT (hb w hw), Result.andThen_ok, Sem.run_pure]) hw) h
theorem bldR (hT : RowT T cs.size) (hwt : Region.wanted ⟨dst, .load T x, ty, pos, after, gd⟩ (yielded ops a.tmps) = true) (hx : a.eval x = .pointer (some ⟨g, o, none⟩)) (hb : ∀ w, C w → w.rangeAt g o cs.toList) (h : wpB Tryd.prog ops C Qk rest (a.put dst (.agg cs))) :
    wpB Tryd.prog ops C Qk (⟨dst, .load T x, ty, pos, after, gd⟩ :: rest) a :=
  wpB_val hwt (fun w hw => gives_value (w' := w) (by simp only [execOp, hx, Sem.run_bind, run_ldR hT (hb w hw), Result.andThen_ok, Sem.run_pure]) ⟨hw, Below.refl _ _⟩) h
end
end Go.Proofs.YtdfoehcdabmagaaDoor
set_option maxRecDepth 100000
namespace Go.Proofs.YtdfoehcdabmagaaDoor
open Go.ChangeShapes Go.WideShapes Go.ChangeAt Go.RowKit
/-- From w to w' no block is turned but those of S; new ones may come. -/
structure Turn (S : Nat → Prop) (w w' : World) : Prop where
  os : w'.os = w.os
  tape : w'.tape = w.tape
  output : w'.output = w.output
  size : w.heap.size ≤ w'.heap.size
  block : ∀ k, k < w.heap.size → ¬ S k → w'.heap[k]? = w.heap[k]?
namespace Turn
variable {S T : Nat → Prop} {w w' w2 : World}
theorem refl (S : Nat → Prop) (w : World) : Turn S w w := ⟨rfl, rfl, rfl, Nat.le_refl _, fun _ _ _ => rfl⟩
theorem trans (h : Turn S w w') (h2 : Turn T w' w2) (hT : ∀ k, T k → S k ∨ w.heap.size ≤ k) : Turn S w w2 :=
  ⟨h2.os.trans h.os, h2.tape.trans h.tape, h2.output.trans h.output, Nat.le_trans h.size h2.size, fun k hk hS =>
    (h2.block k (Nat.lt_of_lt_of_le hk h.size) fun e => (hT k e).elim hS fun h3 => by omega).trans (h.block k hk hS)⟩
theorem mono (h : Turn S w w') (hS : ∀ k, S k → T k) : Turn T w w' := ⟨h.os, h.tape, h.output, h.size, fun k hk hn => h.block k hk fun e => hn (hS k e)⟩
theorem of_below {B : Nat} (h : Below B w w') : Turn (fun k => B ≤ k) w w' := ⟨h.os, h.tape, h.output, h.size, fun k _ hS => h.block k (by omega)⟩
theorem of_new {S : Nat → Prop} (h : Below w.heap.size w w') : Turn S w w' := ⟨h.os, h.tape, h.output, h.size, fun k hk _ => h.block k hk⟩
theorem below (h : Turn S w w') {B : Nat} (hB : B ≤ w.heap.size) (hS : ∀ k, S k → B ≤ k) : Below B w w' := ⟨h.os, h.tape, h.output, h.size, fun k hk => h.block k (by omega) fun e => by have := hS k e; omega⟩
theorem of_grown {r : Option Nat} (h : w.grownBy w' r) (hr : ∀ k, r = some k → S k) : Turn S w w' := ⟨h.os, h.tape, h.output, h.size, fun k hk hS => h.block k hk fun e => hS (hr k e.symm)⟩
theorem setRow (w : World) (g : Nat) (cs : Array Value) (hg : S g) : Turn S w (w.setRow g cs) := ⟨rfl, rfl, rfl, by simp, fun k _ hS => Go.setRow_other w g k cs fun e => hS (e ▸ hg)⟩
theorem setCell (w : World) (p : Addr) (v : Value) (hp : S p.block) : Turn S w (w.setCell p v) := ⟨rfl, rfl, rfl, by simp, fun k _ hS => Below.heap_setCell w p v k fun e => hS (e ▸ hp)⟩
theorem alloc (w : World) (o : Obj) : Turn S w (w.alloc o) := of_new ((Below.refl _ _).alloc (Nat.le_refl _) _)
theorem drew (w : World) : Turn S w w.drew := ⟨rfl, rfl, rfl, Nat.le_refl _, fun _ _ _ => rfl⟩
theorem cell (h : Turn S w w') {p : Addr} {v : Value} (hc : w.cell? p = some v) (hp : ¬ S p.block) : w'.cell? p = some v :=
  (World.cell?_of_block (h.block p.block (World.block_lt_of_cell? w p hc) hp)).trans hc
end Turn
theorem Blk.turn {S : Nat → Prop} {w w' : World} {g : Nat} {t : TypeId} {cs : Array Value} (h : Blk w g t cs) (ht : Turn S w w') (hg : ¬ S g) : Blk w' g t cs := (ht.block g h.lt hg).trans h
theorem Turn.range {S : Nat → Prop} {w w' : World} {g o : Nat} {cs : List Value} (h : Turn S w w') (hr : w.rangeAt g o cs) (hg : ¬ S g) : w'.rangeAt g o cs := fun j v hj => h.cell (p := ⟨g, o + j, none⟩) (hr j v hj) hg

/-! ### Elements of k cells -/
section
variable {α : Type} {k : Nat} {en : α → List Value} {S T : Nat → Prop} {w w' : World} {A : Option Addr} {l m : List α}
/-- The elements of l lie one behind the other from A on, in a block of S. -/
def Lst (k : Nat) (en : α → List Value) (S : Nat → Prop) (w : World) (A : Option Addr) (l : List α) : Prop :=
  0 < l.length → ∃ b o, A = some ⟨b, o, none⟩ ∧ S b ∧ b < w.heap.size ∧ ∀ (i : Nat) (x : α), l[i]? = some x → w.rangeAt b (o + i * k) (en x)
/-- A slice of them. -/
structure Sli (k : Nat) (en : α → List Value) (S : Nat → Prop) (w : World) (A : Option Addr) (l : List α) (n cp : Nat) : Prop where
  len : l.length = n
  cap : n ≤ cp
  max : cp ≤ maxLen
  none : A = none → n = 0 ∧ cp = 0
  lst : Lst k en S w A l
theorem Lst.turn (h : Lst k en S w A l) (ht : Turn T w w') (hd : ∀ b, S b → b < w.heap.size → ¬ T b) : Lst k en S w' A l := fun hn => by
  obtain ⟨b, o, rfl, hS, hl, hr⟩ := h hn
  exact ⟨b, o, rfl, hS, Nat.lt_of_lt_of_le hl ht.size, fun i x hi => ht.range (hr i x hi) (hd b hS hl)⟩
theorem Lst.mono (h : Lst k en S w A l) (hST : ∀ b, S b → T b) : Lst k en T w A l := fun hn => by
  obtain ⟨b, o, rfl, hS, hl, hr⟩ := h hn
  exact ⟨b, o, rfl, hST b hS, hl, hr⟩
theorem Sli.turn {n cap : Nat} (h : Sli k en S w A l n cap) (ht : Turn T w w') (hd : ∀ b, S b → b < w.heap.size → ¬ T b) : Sli k en S w' A l n cap := ⟨h.len, h.cap, h.max, h.none, h.lst.turn ht hd⟩
theorem Sli.mono {n cap : Nat} (h : Sli k en S w A l n cap) (hST : ∀ b, S b → T b) : Sli k en T w A l n cap := ⟨h.len, h.cap, h.max, h.none, h.lst.mono hST⟩
theorem Sli.nil (k : Nat) (en : α → List Value) (S : Nat → Prop) (w : World) : Sli k en S w .none ([] : List α) 0 0 := ⟨rfl, Nat.le_refl _, Nat.zero_le _, fun _ => ⟨rfl, rfl⟩, fun h => by simp at h⟩
theorem Sli.some {n cap i : Nat} {x : α} (h : Sli k en S w A l n cap) (hi : l[i]? = some x) : ∃ b o, A = some ⟨b, o, .none⟩ ∧ S b ∧ b < w.heap.size ∧ w.rangeAt b (o + i * k) (en x) := by
  obtain ⟨b, o, e, hS, hl, hr⟩ := h.lst (by have := (List.getElem?_eq_some_iff.1 hi).1; omega)
  exact ⟨b, o, e, hS, hl, hr i x hi⟩
theorem flat_at {en : α → List Value} (hen : ∀ x, (en x).length = k) : ∀ (l : List α) (i j : Nat) (x : α), l[i]? = some x → j < k → (l.flatMap en)[i * k + j]? = (en x)[j]?
  | [], i, j, x, h, _ => by simp at h
  | y :: l, 0, j, x, h, hj => by
    simp only [List.getElem?_cons_zero, Option.some.injEq] at h
    subst h
    rw [List.flatMap_cons, Nat.zero_mul, Nat.zero_add, List.getElem?_append_left (by rw [hen]; exact hj)]
  | y :: l, i + 1, j, x, h, hj => by
    rw [List.getElem?_cons_succ] at h
    rw [List.flatMap_cons, List.getElem?_append_right (by rw [hen, Nat.add_mul]; omega), hen, show (i + 1) * k + j - k = i * k + j by rw [Nat.add_mul]; omega]
    exact flat_at hen l i j x h hj
theorem flat_len {en : α → List Value} (hen : ∀ x, (en x).length = k) : ∀ l : List α, (l.flatMap en).length = l.length * k
  | [] => by simp
  | x :: l => by rw [List.flatMap_cons, List.length_append, flat_len hen l, hen, List.length_cons, Nat.add_mul]; omega
/-- What is wanted of an element's type: k cells, each a value of one cell. -/
structure EltX (E : TypeId) (k : Nat) (en : α → List Value) : Prop where
  pos : 0 < k
  len : ∀ x, (en x).length = k
  one : ∀ x, ∀ u ∈ en x, u.oneCell' = true
  info : ∃ (i : TypeInfo) (z : Value), Tryd.prog.info? E = some i ∧ i.zero = some z ∧ i.size = k ∧ i.bytes ≤ 16 * k + 16 ∧ z.cells.size = k
theorem elt_info {E : TypeId} (h1 : (Tryd.prog.info? E).map (·.size) = some k) (h2 : (Tryd.prog.info? E).map (fun i => decide (i.bytes ≤ 16 * k + 16)) = some true) (h3 : ((Tryd.prog.info? E).bind (·.zero)).map (·.cells.size) = some k) :
    ∃ (i : TypeInfo) (z : Value), Tryd.prog.info? E = some i ∧ i.zero = some z ∧ i.size = k ∧ i.bytes ≤ 16 * k + 16 ∧ z.cells.size = k := by
  cases hi : Tryd.prog.info? E with
  | none => rw [hi] at h1; cases h1
  | some i =>
    rw [hi] at h1 h2 h3
    simp only [Option.map_some, Option.some.injEq, decide_eq_true_eq, Option.bind_some] at h1 h2 h3
    cases hz : i.zero with
    | none => rw [hz] at h3; cases h3
    | some z => rw [hz] at h3; exact ⟨i, z, rfl, hz, h1, h2, by simpa using h3⟩
/-- A list of the call's own, from block B on. -/
def OwnX (E : TypeId) (k : Nat) (en : α → List Value) (w : World) (B : Nat) (v : Value) (l : List α) : Prop := w.ownsRow B E k v l.length (l.flatMap en)
section
variable {E : TypeId} {B : Nat} {v : Value}
theorem OwnX.nil (E : TypeId) (k : Nat) (en : α → List Value) (w : World) (B : Nat) : OwnX E k en w B (.slice none 0 0) ([] : List α) := World.ownsRow_nil w B _ _
theorem OwnX.empty (hB : B ≤ w.heap.size) : OwnX E k en (w.alloc (.cells #[] E)) B (.slice (some ⟨w.heap.size, 0, none⟩) 0 0) ([] : List α) := World.ownsRow_made w #[] 0 hB (Nat.zero_le _) (by simp)
theorem OwnX.sli (hE : ∀ x, (en x).length = k) (h : OwnX E k en w B v l) : ∃ A cap, v = .slice A l.length cap ∧ Sli k en (fun b => B ≤ b) w A l l.length cap := by
  rcases h.2 with ⟨rfl, h0⟩ | ⟨g, cap, cur, rfl, hB, hg, hnc, hcm, hcs, ht⟩
  · obtain rfl := List.eq_nil_of_length_eq_zero h0
    exact ⟨none, 0, rfl, Sli.nil _ _ _ _⟩
  · refine ⟨_, cap, rfl, rfl, hnc, hcm, (fun e => by cases e), fun _ => ⟨g, 0, rfl, hB, Blk.lt (t := E) (cs := cur) hg, fun i x hi j u hj => ?_⟩⟩
    have hil := (List.getElem?_eq_some_iff.1 hi).1
    have hjl : j < k := by have := (List.getElem?_eq_some_iff.1 hj).1; rwa [hE] at this
    rw [Nat.zero_add, cell_of_row w g _ cur _ _ hg]
    have h1 := flat_at hE l i j x hi hjl
    rw [hj, ← ht, List.getElem?_take_of_lt (by have := Nat.mul_le_mul_right k (show i + 1 ≤ l.length from hil); rw [Nat.add_mul] at this; omega), Array.getElem?_toList] at h1
    exact h1
theorem OwnX.own (h : OwnX E k en w B v l) : ∀ b, v.ownBlock = some b → B ≤ b ∧ b < w.heap.size := fun b hb => World.ownsRow.lt h b hb
theorem OwnX.turn (h : OwnX E k en w B v l) (ht : Turn T w w') (hd : ∀ b, v.ownBlock = some b → ¬ T b) : OwnX E k en w' B v l := by
  refine ⟨h.1, ?_⟩
  rcases h.2 with hn | ⟨g, cap, cur, rfl, hb, hgg, rest⟩
  · exact .inl hn
  · exact .inr ⟨g, cap, cur, rfl, hb, (ht.block g (Blk.lt (t := E) (cs := cur) hgg) (hd g rfl)).trans hgg, rest⟩
theorem OwnX.below {C : Nat} (h : OwnX E k en w B v l) (hb : Below C w w') (hC : w.heap.size ≤ C) : OwnX E k en w' B v l := h.turn (Turn.of_below hb) fun b e => by have := h.own b e; omega
theorem OwnX.lower {B' : Nat} (h : OwnX E k en w B v l) (hB : B' ≤ B) : OwnX E k en w B' v l := ⟨h.1, h.2.imp id fun ⟨g, cap, cur, hv, hg, rest⟩ => ⟨g, cap, cur, hv, Nat.le_trans hB hg, rest⟩⟩
end
section
variable {ops : Array Oper} {Q : Exit → Act → World → Prop} {a : Act} {rest : List Oper} {dst : Option Tmp} {ty : TypeId} {pos : String} {after : Array Edge} {s x : Operand} {n cap B : Nat} {v : Value} {E L : TypeId}
/-- append of a slice to a list of the call's own: the run alone. -/
theorem run_appX (hE : EltX E k en) (hu : Tryd.prog.underlying L = some (.slice E)) (hown : OwnX E k en w B v l) (hm : Sli k en S w A m n cap) (hsz : l.length + n ≤ 1000000) (hk : k ≤ 1000) (hB : B ≤ w.heap.size) :
    ∃ v' w', (Builtin.append_ #[L, L] ty #[v, .slice A n cap]).run Tryd.prog w = .ok v' w' ∧ OwnX E k en w' B v' (l ++ m) ∧ w.grownBy w' v.ownBlock := by
  obtain ⟨i, z, hi, hz, h1, h2, h3⟩ := hE.info
  cases hA : A with
  | none =>
    obtain ⟨rfl, rfl⟩ := hm.none hA
    obtain rfl := List.eq_nil_of_length_eq_zero hm.len
    refine ⟨v, w, run_append_owned_none (P := Tryd.prog) w B L ty E i k hu hi v l.length _ hown, ?_, ⟨rfl, rfl, rfl, Nat.le_refl _, fun _ _ _ => rfl⟩⟩
    rw [List.append_nil]; exact hown
  | some ad =>
    subst hA
    have hne : ∀ j u, (m.flatMap en)[j]? = some u → w.cell? (ad.add j) = some u := fun j u hj => by
      have hjl := (List.getElem?_eq_some_iff.1 hj).1
      rw [flat_len hE.len] at hjl
      have hq : j / k < m.length := Nat.div_lt_of_lt_mul (by rw [Nat.mul_comm]; exact hjl)
      have h4 := flat_at hE.len m (j / k) (j % k) m[j / k] (List.getElem?_eq_getElem hq) (Nat.mod_lt _ hE.pos)
      rw [show j / k * k + j % k = j by rw [Nat.mul_comm]; exact Nat.div_add_mod j k, hj] at h4
      obtain ⟨b, o, e, _, _, hr⟩ := hm.lst (Nat.lt_of_le_of_lt (Nat.zero_le _) hq)
      obtain rfl : ad = ⟨b, o, none⟩ := Option.some.inj e
      have h5 := hr (j / k) m[j / k] (List.getElem?_eq_getElem hq) (j % k) u h4.symm
      rw [Addr.add_mid]
      rwa [show o + j / k * k + j % k = o + j by have := Nat.div_add_mod j k; rw [Nat.mul_comm] at this; omega] at h5
    obtain ⟨v', w', hr, ho, hg, _⟩ := run_append_own (P := Tryd.prog) w B L ty E i z k i.bytes hu hi hz h1 rfl h3 hE.pos v l.length _ hown ad n cap (m.flatMap en) (by rw [flat_len hE.len, hm.len]) hne
      (fun u hu => by obtain ⟨x, _, hx⟩ := List.mem_flatMap.1 hu; exact hE.one x u hx) (by unfold maxLen; omega)
      (Nat.le_trans (Nat.mul_le_mul hsz (Nat.le_trans h2 (show 16 * k + 16 ≤ 16016 by omega))) (by omega)) hB
    refine ⟨v', w', hr, ?_, hg⟩
    unfold OwnX
    rw [List.length_append, List.flatMap_append, hm.len]
    exact ho
theorem wappX (hE : EltX E k en) (hu : Tryd.prog.underlying L = some (.slice E)) (hs : a.eval s = v) (hx : a.eval x = .slice A n cap) (hown : OwnX E k en w B v l) (hm : Sli k en S w A m n cap) (hsz : l.length + n ≤ 1000000) (hk : k ≤ 1000) (hB : B ≤ w.heap.size)
    (h : ∀ v' w', OwnX E k en w' B v' (l ++ m) → w.grownBy w' v.ownBlock → wpList Tryd.prog ops Q rest (a.put dst v') w') :
    wpList Tryd.prog ops Q (⟨dst, .call { callee := .builtin .append, args := #[s, x], argTypes := #[L, L] }, ty, pos, after, none⟩ :: rest) a w := by
  obtain ⟨v', w', hr, ho, hg⟩ := run_appX (ty := ty) hE hu hown hm hsz hk hB
  refine wpList_plain rfl fun K hK => ?_
  unfold Oper.wp execOp
  simp only [resolve, invoke, builtin, Sem.run_bind, Sem.run_pure, Result.andThen_ok, List.map_toArray, List.map_cons, List.map_nil, hs, hx, hr]
  exact hK _ _ (h v' w' ho hg)
end
/-- A piece of a slice. -/
theorem run_slX {L E : TypeId} {n cap i j : Nat} (hE : EltX E k en) (hu : Tryd.prog.underlying L = some (.slice E)) (hel : Tryd.prog.elem L = E) (h : Sli k en S w A l n cap) (hij : i ≤ j) (hj : j ≤ n) :
    ∃ A', (Instr.sliceAt L (.slice A n cap) (some (.int .i64 i)) (some (.int .i64 j)) none).run Tryd.prog w = .ok (.slice A' (j - i) (cap - i)) w ∧ Sli k en S w A' ((l.drop i).take (j - i)) (j - i) (cap - i) := by
  obtain ⟨ie, z, hi, hz, h1, h2, h3⟩ := hE.info
  have hc := h.cap
  have hm := h.max
  have hsz : (sizeOf (Tryd.prog.elem L)).run Tryd.prog w = .ok k w := by rw [hel]; simp [sizeOf, typeInfo, hi, h1]
  have hu' : Tryd.prog.underlying L = some (.slice (Tryd.prog.elem L)) := by rw [hel]; exact hu
  refine ⟨if cap = i then A else A.map (·.add (i * k)), ?_, ?_⟩
  · rw [run_sliceAt_slice w L _ _ _ _ hu', run_slice_lh w L A n cap hu' .i64 .i64 i j (by omega) (by omega) (by omega), hsz]
    simp only [Result.andThen, sliced, Int.toNat_natCast]
  · refine ⟨by rw [List.length_take, List.length_drop, h.len]; omega, by omega, by omega, fun e => ?_, fun hn => ?_⟩
    · by_cases hci : cap = i
      · exact ⟨by omega, by omega⟩
      · rw [if_neg hci] at e
        cases hA : A with
        | none => have := h.none hA; exact ⟨by omega, by omega⟩
        | some a => rw [hA] at e; cases e
    · rw [List.length_take, List.length_drop] at hn
      obtain ⟨b, o, rfl, hS, hl, hr⟩ := h.lst (by omega)
      have hll := h.len
      rw [if_neg (by omega)]
      refine ⟨b, o + i * k, by rw [Option.map_some, Addr.add_mid], hS, hl, fun q x hq => ?_⟩
      have hql := (List.getElem?_eq_some_iff.1 hq).1
      rw [List.length_take, List.length_drop] at hql
      rw [List.getElem?_take_of_lt (by omega), List.getElem?_drop] at hq
      have := hr (i + q) x hq
      rwa [show o + (i + q) * k = o + i * k + q * k by rw [Nat.add_mul]; omega] at this
end
end Go.Proofs.YtdfoehcdabmagaaDoor
set_option maxRecDepth 100000
namespace Go.Proofs.YtdfoehcdabmagaaDoor
open Go.ChangeShapes Go.WideShapes Go.ChangeAt Go.RowKit
section
variable {T : TypeId} {m N o : Nat} {F G : Nat → Nat}
theorem run_part_ar (hT : ArT T m) (h : o + m ≤ N) (w : World) : (part T (ar N F) o).run Tryd.prog w = .ok (.agg (ar m fun i => F (o + i))) w := by
  obtain ⟨d, h1, h2⟩ := hT.desc
  have hagg : (isAgg T).run Tryd.prog w = .ok true w := by
    unfold isAgg
    rw [Sem.run_bind, run_underlying h1 w]
    cases d <;> simp_all
  simp [part, Sem.run_bind, hagg, size_of hT w, extract_ar h]
theorem eqf_nil (d : Nat) (w : World) : (Op.eqFields d (ar N F) (ar N G) []).run Tryd.prog w = .ok true w := by simp [Op.eqFields]
theorem eqf_cons {d : Nat} {f : Field} {fs : List Field} (hn : f.name ≠ "_") (hT : ArT f.type m) (hu : Tryd.prog.underlying f.type = some (.array m 5)) (ho : f.offset = o) (h : o + m ≤ N) (w : World) :
    (Op.eqFields (d + 2) (ar N F) (ar N G) (f :: fs)).run Tryd.prog w = if eqA m (fun i => F (o + i)) (fun i => G (o + i)) = true then (Op.eqFields (d + 2) (ar N F) (ar N G) fs).run Tryd.prog w else .ok false w := by
  have he := run_equalIn_row (P := Tryd.prog) (d := d) (t := f.type) (e := 5) (k := .u8) (n := m) (f := fun k => ((F (o + k) : Nat) : Int)) (g := fun k => ((G (o + k) : Nat) : Int)) hu Tryd.underlying5 (by kernel_rfl) w
  have he' : (Op.equalIn (d + 2) f.type (.agg (ar m fun i => F (o + i))) (.agg (ar m fun i => G (o + i)))).run Tryd.prog w = .ok (eqA m (fun i => F (o + i)) fun i => G (o + i)) w := he
  rw [Op.eqFields, if_pos hn]
  simp only [Sem.run_bind, ho, run_part_ar hT h w, Result.andThen_ok, he']
  cases eqA m (fun i => F (o + i)) fun i => G (o + i) <;> simp
end
theorem list_two {α β : Type} {φ : α → β} {l : List α} {a b : β} (h : l.map φ = [a, b]) : ∃ x y, l = [x, y] ∧ φ x = a ∧ φ y = b := by
  match l, h with
  | [x, y], h => simp only [List.map_cons, List.map_nil, List.cons.injEq, and_true] at h; exact ⟨x, y, rfl, h.1, h.2⟩
theorem list_three {α β : Type} {φ : α → β} {l : List α} {a b c : β} (h : l.map φ = [a, b, c]) : ∃ x y z, l = [x, y, z] ∧ φ x = a ∧ φ y = b ∧ φ z = c := by
  match l, h with
  | [x, y, z], h => simp only [List.map_cons, List.map_nil, List.cons.injEq, and_true] at h; exact ⟨x, y, z, rfl, h.1, h.2.1, h.2.2⟩
end Go.Proofs.YtdfoehcdabmagaaDoor
set_option maxRecDepth 100000
namespace Go.Proofs.YtdfoehcdabmagaaDoor
open Go.RowKit
section
variable {P : Program} {ops : Array Oper}
theorem wp_region_newst {id : Nat} {Q : Exit → Act → World → Prop} {C : World → Prop} {a : Act} {w : World} {l : List Oper} (n : Nat) (T : TypeId) (z F : Array Value) (d1 : Tmp) {x y : Operand} {t1 t2 : TypeId} {p1 p2 : String} {e1 e2 : Array Edge}
    (hl1 : l[n]? = some ⟨some d1, .alloc T, t1, p1, e1, none⟩) (hl2 : l[n + 1]? = some ⟨none, .store T x y, t2, p2, e2, none⟩) (he : (e2.toList.any fun e => e.on == n && Region.binds .any e) = true)
    (hm : P.follows .mixedOrders = true) (ht : tidy l.toArray = true) (hB : tailB l.toArray (n + 2) = true)
    (ha : ∀ w, (Instr.alloc T true (.tuple #[])).run P w = .ok (.pointer (some ⟨w.heap.size, 0, none⟩)) (w.alloc (.cells z T)))
    (hst : ∀ w' b1, Blk w' b1 T z → (Instr.storeAt T (ptr b1) (.agg F)).run P w' = .ok () (w'.setRow b1 F))
    (hC : C w.drew) (hCa : ∀ w, C w → C (w.alloc (.cells z T))) (hCs : ∀ w', C w' → w.heap.size ≤ w'.heap.size) (hCr : ∀ w' b1, C w' → w.heap.size ≤ b1 → C (w'.setRow b1 F))
    (h : wpB P l.toArray C (fun a' => (∀ b1, (a'.put (some d1) (ptr b1)).eval x = ptr b1 ∧ (a'.put (some d1) (ptr b1)).eval y = .agg F) ∧ ∀ b1 w', C w' → Blk w' b1 T F → w.heap.size ≤ b1 →
      wpList P l.toArray Q (l.drop (n + 2)) (a'.put (some d1) (ptr b1)) w') (l.take n) a) : (Code.region id l.toArray true).wp P Q a w := by
  obtain ⟨vals, ⟨hev, hq⟩, hs⟩ := wpB_vals _ _ h
  have hln : n + 1 < l.length := (List.getElem?_eq_some_iff.1 hl2).1
  have hlen : (l.take n).length = n := by rw [List.length_take]; omega
  let V : Nat → Nat → Value := fun γ i => if i = n then ptr γ else if i = n + 1 then undef else vals i
  have hV : ∀ γ i, i < n → V γ i = vals i := fun γ i hi => by show (if _ then _ else _) = _; rw [if_neg (by omega), if_neg (by omega)]
  have hfr : ∀ γ i, i ≤ n → lexF (l.take (n + 2)) (V γ) i a = lexF (l.take n) vals i a := fun γ i hi => lexF_congr fun j hj =>
    ⟨by rw [List.getElem?_take_of_lt (by omega), List.getElem?_take_of_lt (by omega)], hV γ j (by omega)⟩
  have hput : ∀ γ, lexF (l.take (n + 2)) (V γ) (n + 1) a = (lexF (l.take n) vals n a).put (some d1) (ptr γ) := fun γ => by
    rw [lexF, hfr γ n (Nat.le_refl n), List.getElem?_take_of_lt (by omega), hl1]
    simp only [V, if_pos, Option.bind_some]
  rw [hlen] at hev hq
  refine region_core (Γ := Nat) (C := fun γ L w' => C w' ∧ (L.getD (n + 1) false = true → L.getD n false = true) ∧ (L.getD n false = true → Blk w' γ T (if L.getD (n + 1) false = true then F else z) ∧ w.heap.size ≤ γ)) (n + 2) hm ht hB 0
    ⟨hC, (fun h => by rw [getD_replicate_false] at h; cases h), (fun h => by rw [getD_replicate_false] at h; cases h)⟩ V ?_ ?_
  · intro i o hi γ L w' hsz hr ⟨hC', g0, g1⟩
    have hilt : i < n + 2 := by
      have := (List.getElem?_eq_some_iff.1 hi).1
      rw [List.length_take] at this; omega
    rw [List.getElem?_take_of_lt hilt] at hi
    have hun := getD_both (mem_ready.1 hr).1
    have hset : ∀ k, k ≠ i → (L.setIfInBounds i true).getD k false = L.getD k false := fun k hk => getD_set_ne false (Ne.symm hk)
    rcases Nat.lt_or_ge i n with hin | hin
    · refine ⟨γ, fun _ _ => rfl, ?_⟩
      rw [hfr γ i (by omega), hV γ i hin]
      simp only [hset n (by omega), hset (n + 1) (by omega)]
      rcases hs i o (by rw [List.getElem?_take_of_lt hin]; exact hi) with ⟨h1, h2⟩ | ⟨h1, h2⟩
      · exact .inl ⟨h1, gives_mono (h2 w' hC') fun w'' ⟨h3, h4⟩ => ⟨h3, g0, fun e => ⟨(g1 e).1.below h4 (g1 e).1.lt, (g1 e).2⟩⟩⟩
      · exact .inr ⟨h1, h2, hC', g0, g1⟩
    · by_cases hie : i = n
      · subst hie
        obtain rfl : _ = o := Option.some.inj (hl1.symm.trans hi)
        have hw : ∀ b : Act, (execOp b.eval ⟨some d1, .alloc T, t1, p1, e1, none⟩).run P w' = .ok (.value (.pointer (some ⟨w'.heap.size, 0, none⟩))) (w'.alloc (.cells z T)) := fun b => by
          simp only [execOp, Sem.run_bind, ha w', Result.andThen_ok, Sem.run_pure]
        have hno : L.getD (i + 1) false = false := by
          cases hx : L.getD (i + 1) false with
          | false => rfl
          | true => rw [g0 hx] at hun; cases hun
        refine ⟨w'.heap.size, fun j hj => ?_, .inl ⟨rfl, ?_⟩⟩
        · have hjn : j ≠ i := fun e => by subst e; rw [hun] at hj; cases hj
          simp only [V, if_neg hjn]
        · refine gives_value (w' := w'.alloc (.cells z T)) ?_ ?_
          · rw [hw]
            simp only [V, if_pos]; rfl
          · refine ⟨hCa _ hC', fun _ => by simp [show i < L.size by omega], fun _ => ⟨?_, hCs _ hC'⟩⟩
            rw [hset (i + 1) (by omega), hno, if_neg (by simp)]
            exact Blk.new _ _ _
      · obtain rfl : i = n + 1 := by omega
        obtain rfl : _ = o := Option.some.inj (hl2.symm.trans hi)
        have hdone : L.getD n false = true := by
          obtain ⟨_, o', ho', hall⟩ := mem_ready.1 hr
          obtain ⟨e, hem, hee⟩ := List.any_eq_true.1 he
          simp only [Bool.and_eq_true, beq_iff_eq] at hee
          have ho2 : (l.toArray)[n + 1]? = some ⟨none, .store T x y, t2, p2, e2, none⟩ := by rw [List.getElem?_toArray]; exact hl2
          obtain rfl : _ = o' := Option.some.inj (ho2.symm.trans ho')
          have := hall e (by simpa using hem) hee.2
          rwa [hee.1] at this
        obtain ⟨hb, hle⟩ := g1 hdone
        rw [hun, if_neg (by simp)] at hb
        refine ⟨γ, fun _ _ => rfl, .inl ⟨rfl, ?_⟩⟩
        rw [hput γ]
        have hVu : V γ (n + 1) = undef := by show (if _ then _ else _) = _; rw [if_neg (by omega), if_pos rfl]
        rw [hVu]
        refine gives_skip (w' := w'.setRow γ F) ?_ ⟨hCr _ _ hC' hle, fun _ => by rw [hset n (by omega)]; exact hdone, fun _ => ⟨?_, hle⟩⟩
        · have hx := (hev γ).1
          have hy := (hev γ).2
          simp only [execOp, hx, hy, Sem.run_bind, hst w' γ hb, Result.andThen_ok, Sem.run_pure]
        · rw [if_pos (by simp [show n + 1 < L.size by omega])]
          exact hb.setRow_same F
  · intro γ L w' hall ⟨hC', _, g1⟩
    obtain ⟨hb, hle⟩ := g1 (hall n (by omega))
    rw [if_pos (hall (n + 1) (by omega))] at hb
    have hl2' : (l.take (n + 2)).length = n + 2 := by rw [List.length_take]; omega
    rw [hl2']
    have hp2 : lexF (l.take (n + 2)) (V γ) (n + 2) a = (lexF (l.take n) vals n a).put (some d1) (ptr γ) := by
      rw [lexF, hput γ, List.getElem?_take_of_lt (by omega), hl2]
      rfl
    rw [hp2]
    exact hq γ w' hC' hb hle
end
end Go.Proofs.YtdfoehcdabmagaaDoor
