/-
  The walk of HmacOf.
-/
import Derived.Test.YtfgmgfniolmpkaaDoorHRef2
import Derived.Test.YtfgmgfniolmpkaaDoorStr
namespace Go.Proofs.YtfgmgfniolmpkaaDoor
open Go.ChangeShapes Go.WideShapes Go.ChangeAt Go.RowKit
attribute [local go_sem] Gives
/-- A slice of bytes that came in, of which the first thousand are looked at. -/
structure Arg (w : World) (K : Option Addr) (key : List Nat) (kn kcap : Nat) : Prop where
  len : key.length = kn
  cap : kn ≤ kcap
  max : kcap ≤ maxLen
  b256 : B256 key
  none : K = none → kn = 0 ∧ kcap = 0
  byt : Byt w w.heap.size K key
theorem Arg.cut {w : World} {K : Option Addr} {key : List Nat} {kn kcap : Nat} (h : Arg w K key kn kcap) : Arg w K (key.take 1000) (min kn 1000) kcap where
  len := by rw [List.length_take, h.len]; omega
  cap := by have := h.cap; omega
  max := h.max
  b256 := h.b256.take 1000
  none e := by obtain ⟨h1, h2⟩ := h.none e; exact ⟨by omega, h2⟩
  byt := h.byt.take 1000
theorem Arg.on {w w' : World} {K : Option Addr} {key : List Nat} {kn kcap : Nat} (h : Arg w K key kn kcap) (hb : Below w.heap.size w w') : Arg w' K key kn kcap where
  len := h.len
  cap := h.cap
  max := h.max
  b256 := h.b256
  none := h.none
  byt := (h.byt.below hb (Nat.le_refl _)).more hb.size
theorem Own.arg {w : World} {B : Nat} {v : Value} {l : List Nat} (h : Own 5 .u8 w B v l) (hb : B256 l) : ∃ A cap, v = .slice A l.length cap ∧ Arg w A l l.length cap := by
  rcases h.form with ⟨rfl, rfl⟩ | ⟨g, cap, rfl, _, _, h1, h2, h3⟩
  · exact ⟨.none, 0, rfl, rfl, Nat.le_refl _, Nat.zero_le _, hb, fun _ => ⟨rfl, rfl⟩, Byt.none rfl⟩
  · exact ⟨_, cap, rfl, rfl, h1, h2, hb, (fun e => by cases e), h3.byt⟩
theorem Arg.str {w : World} {K : Option Addr} {key : List Nat} {kn kcap : Nat} (h : Arg w K key kn kcap) : (convert 22 9 (.slice K kn kcap)).run Tryd.prog w = .ok (.string (str key)) w := run_bytes_str h.len h.b256 h.none h.byt
set_option maxHeartbeats 1000000 in
set_option maxRecDepth 100000 in
theorem hofl_law (K : Option Addr) (key : List Nat) (kn kcap : Nat) (A : Option Addr) (l : List Nat) (n cap : Nat) (w : World) (hK : Arg w K key kn kcap) (hA : Arg w A l n cap) (hS : Salts w) :
    Calls Tryd.prog 3 #[.slice K kn kcap, .slice A n cap] w fun e w' => e = .returned (.bool true) ∧ Below w.heap.size w w' := by
  have CK := hid fun w => cut_any K kn kcap hK.cap hK.max w
  have CB := hid fun w => cut_any A n cap hA.cap hA.max w
  have k1 := hK.cut
  have a1 := hA.cut
  have hk1000 : min kn 1000 ≤ 1000 := by omega
  have hn1000 : min n 1000 ≤ 1000 := by omega
  generalize key.take 1000 = key' at *
  generalize l.take 1000 = l' at *
  generalize min kn 1000 = kn' at *
  generalize min n 1000 = n' at *
  have HK := hid k1
  have HA := hid a1
  have SA := hid hS
  clear hK hA k1 a1 hS
  go_enter Tryd.func3, Tryd.ntmps3
  go_wp2_with fail
  refine (CK.out w).mono ?_
  rintro e w' ⟨rfl, rfl⟩
  go_wp2_with fail
  refine (CB.out w).mono ?_
  rintro e w' ⟨rfl, rfl⟩
  clear CK CB
  go_upto_region 3 with (first
    | (at_builtin; (with_reducible apply wappN_any eltB); rfl; rfl; exact HK.out.none; exact Own.empty w (Nat.le_refl _); exact ((HK.out.byt.below ((Below.refl w.heap.size w).alloc (Nat.le_refl _) _) (Nat.le_refl _))); exact HK.out.len; (rw [List.length_nil]; omega); (simp); intro v1 w3 o3 g3; have b3 := below_grown ((Below.refl w.heap.size w).alloc (Nat.le_refl _) (.cells #[] 5)) g3 (Own.empty (e := 5) (k := .u8) w (Nat.le_refl _)) (Nat.le_refl _) (Nat.le_refl _); have O3 := hid o3; have B3 := hid b3; clear o3 b3 g3)
    | (at_builtin; (with_reducible apply wappN_any eltB); rfl; rfl; exact HA.out.none; exact Own.empty w3 (Nat.le_refl _); exact ((HA.out.byt.below (B3.out.alloc B3.out.size _) (Nat.le_refl _))); exact HA.out.len; (rw [List.length_nil]; omega); (simp); intro v2 w4 o4 g4; have b4 := below_grown ((Below.refl w3.heap.size w3).alloc (Nat.le_refl _) (.cells #[] 5)) g4 (Own.empty (e := 5) (k := .u8) w3 (Nat.le_refl _)) (Nat.le_refl _) (Nat.le_refl _); have O4 := hid o4; have B4 := hid b4; clear o4 b4 g4))
  have o3 := O3.out.below B4.out
  rw [List.nil_append] at o3
  have o4 := O4.out
  rw [List.nil_append] at o4
  obtain ⟨Ak, ck, e3, ak⟩ := o3.arg HK.out.b256
  obtain ⟨Ac, cc, e4, ac⟩ := o4.arg HA.out.b256
  rw [HK.out.len] at e3 ak
  rw [HA.out.len] at e4 ac
  subst e3 e4
  have BW := hid (B3.out.trans (B4.out.mono B3.out.size))
  have AK := hid ak
  have AC := hid ac
  clear o3 o4 ak ac O3 O4 B3 B4
  go_wp2_with fail
  refine (hof_any Ak key' kn' ck AK.out.len AK.out.cap AK.out.max (by omega) AK.out.b256 Ac l' n' cc AC.out.len AC.out.cap AC.out.max AC.out.b256 (by omega) w4 AK.out.byt AC.out.byt (SA.out.on BW.out)).mono ?_
  rintro e w5 ⟨rfl, h5⟩
  obtain ⟨T, hT⟩ : ∃ T, T = HmM.tag key' l' := ⟨_, rfl⟩
  rw [← hT]
  have HT := hid hT
  have B5 := hid (BW.out.trans (h5.mono BW.out.size))
  have AK5 := hid (AK.out.on h5)
  have AC5 := hid (AC.out.on h5)
  have hz5 := B5.out.size
  clear hT h5 AK AC BW
  go_upto_region 4 with ((with_reducible apply stt); rfl; rfl; exact Blk.top zlit_tag rfl)
  generalize hw6 : World.setRow _ _ _ = w6
  have c6 : Blk w6 w5.heap.size 25 (tag T) := by rw [← hw6]; exact (Blk.top zlit_tag rfl).setRow_same _
  have b56 : Below w5.heap.size w5 w6 := by rw [← hw6]; exact below_setRow ((Below.refl _ _).alloc (Nat.le_refl _) _) (Nat.le_refl _) _
  obtain ⟨g, hg⟩ : ∃ g, g = w5.heap.size := ⟨_, rfl⟩
  rw [← hg] at c6 ⊢
  have C6 := hid c6
  have B6 := hid (B5.out.trans (b56.mono hz5))
  have AK6 := hid (AK5.out.on b56)
  have AC6 := hid (AC5.out.on b56)
  have K6 := hid (HK.out.on B6.out)
  have A6 := hid (HA.out.on B6.out)
  have HE := hid fun w => eq_tag_self T w
  clear hw6 c6 b56 hg AK5 AC5 HK HA B5
  go_wp2_with fail
  refine wp_region_tail (C := fun w' => Below w6.heap.size w6 w') 22 (by kernel_rfl) (by kernel_rfl) (by kernel_rfl) (Below.refl _ _).drew ?_
  simp only [List.take_succ_cons, List.take_zero, List.drop_succ_cons, List.drop_zero]
  apply klt
  · rfl
  · rfl
  · exact fun w' hw' => C6.out.below hw' C6.out.lt
  simp only [Act.put, List.setIfInBounds_toArray, List.set_cons_succ, List.set_cons_zero]
  apply wpK_val
  · rfl
  · intro w' hw'
    go_simp
    first | exact rfl | exact ⟨rfl, hw'⟩
  simp only [Act.put, List.setIfInBounds_toArray, List.set_cons_succ, List.set_cons_zero]
  apply wpK_val
  · rfl
  · intro w' hw'
    go_simp
    first | exact rfl | exact ⟨rfl, hw'⟩
  simp only [Act.put, List.setIfInBounds_toArray, List.set_cons_succ, List.set_cons_zero]
  apply wpK_val
  · rfl
  · intro w' hw'
    go_simp
    exact (rof_any K key' kn' kcap K6.out.len (by omega) K6.out.none K6.out.b256 A l' n' cap A6.out.len (by omega) A6.out.none A6.out.b256 _ (K6.out.on hw').byt (A6.out.on hw').byt).mono fun e w'' ⟨he, hb''⟩ => ⟨he.trans (congrArg (fun T => Ending.returned (.agg (tag T))) HT.out.symm), hw'.trans (hb''.mono hw'.size)⟩
  simp only [Act.put, List.setIfInBounds_toArray, List.set_cons_succ, List.set_cons_zero]
  apply wpK_val
  · rfl
  · intro w' hw'
    have h1 : _ := HE.out
    have h2 : _ := eqg_tag
    go_simp
    first | exact rfl | exact ⟨rfl, hw'⟩
  simp only [Act.put, List.setIfInBounds_toArray, List.set_cons_succ, List.set_cons_zero]
  apply wpK_val
  · rfl
  · intro w' hw'
    go_simp
    first | exact rfl | exact ⟨rfl, hw'⟩
  simp only [Act.put, List.setIfInBounds_toArray, List.set_cons_succ, List.set_cons_zero]
  apply wpK_val
  · rfl
  · intro w' hw'
    go_simp
    first | exact rfl | exact ⟨rfl, hw'⟩
  simp only [Act.put, List.setIfInBounds_toArray, List.set_cons_succ, List.set_cons_zero]
  apply wpK_val
  · rfl
  · intro w' hw'
    have h1 : _ := (AK6.out.on hw').str
    go_simp
    first | exact rfl | exact ⟨rfl, hw'⟩
  simp only [Act.put, List.setIfInBounds_toArray, List.set_cons_succ, List.set_cons_zero]
  apply wpK_val
  · rfl
  · intro w' hw'
    go_simp
    first | exact rfl | exact ⟨rfl, hw'⟩
  simp only [Act.put, List.setIfInBounds_toArray, List.set_cons_succ, List.set_cons_zero]
  apply wpK_val
  · rfl
  · intro w' hw'
    have h1 : _ := (K6.out.on hw').str
    go_simp
    first | exact rfl | exact ⟨rfl, hw'⟩
  simp only [Act.put, List.setIfInBounds_toArray, List.set_cons_succ, List.set_cons_zero]
  apply wpK_val
  · rfl
  · intro w' hw'
    go_simp
    first | exact rfl | exact ⟨rfl, hw'⟩
  simp only [Act.put, List.setIfInBounds_toArray, List.set_cons_succ, List.set_cons_zero]
  apply wpK_val
  · rfl
  · intro w' hw'
    go_simp
    first | exact rfl | exact ⟨rfl, hw'⟩
  simp only [Act.put, List.setIfInBounds_toArray, List.set_cons_succ, List.set_cons_zero]
  apply wpK_val
  · rfl
  · intro w' hw'
    go_simp
    first | exact rfl | exact ⟨rfl, hw'⟩
  simp only [Act.put, List.setIfInBounds_toArray, List.set_cons_succ, List.set_cons_zero]
  apply wpK_val
  · rfl
  · intro w' hw'
    go_simp
    first | exact rfl | exact ⟨rfl, hw'⟩
  simp only [Act.put, List.setIfInBounds_toArray, List.set_cons_succ, List.set_cons_zero]
  apply wpK_val
  · rfl
  · intro w' hw'
    have h1 : _ := (AC6.out.on hw').str
    go_simp
    first | exact rfl | exact ⟨rfl, hw'⟩
  simp only [Act.put, List.setIfInBounds_toArray, List.set_cons_succ, List.set_cons_zero]
  apply wpK_val
  · rfl
  · intro w' hw'
    go_simp
    first | exact rfl | exact ⟨rfl, hw'⟩
  simp only [Act.put, List.setIfInBounds_toArray, List.set_cons_succ, List.set_cons_zero]
  apply wpK_val
  · rfl
  · intro w' hw'
    have h1 : _ := (A6.out.on hw').str
    go_simp
    first | exact rfl | exact ⟨rfl, hw'⟩
  simp only [Act.put, List.setIfInBounds_toArray, List.set_cons_succ, List.set_cons_zero]
  apply wpK_val
  · rfl
  · intro w' hw'
    go_simp
    first | exact rfl | exact ⟨rfl, hw'⟩
  simp only [Act.put, List.setIfInBounds_toArray, List.set_cons_succ, List.set_cons_zero]
  apply wpK_val
  · rfl
  · intro w' hw'
    go_simp
    first | exact rfl | exact ⟨rfl, hw'⟩
  simp only [Act.put, List.setIfInBounds_toArray, List.set_cons_succ, List.set_cons_zero]
  apply wpK_val
  · rfl
  · intro w' hw'
    go_simp
    first | exact rfl | exact ⟨rfl, hw'⟩
  simp only [Act.put, List.setIfInBounds_toArray, List.set_cons_succ, List.set_cons_zero]
  apply wpK_val
  · rfl
  · intro w' hw'
    go_simp
    exact (works_any _ (SA.out.on (B6.out.trans (hw'.mono B6.out.size)))).mono fun e w'' ⟨he, hb''⟩ => ⟨he, hw'.trans (hb''.mono hw'.size)⟩
  simp only [Act.put, List.setIfInBounds_toArray, List.set_cons_succ, List.set_cons_zero]
  apply wpK_val
  · rfl
  · intro w' hw'
    go_simp
    first | exact rfl | exact ⟨rfl, hw'⟩
  simp only [Act.put, List.setIfInBounds_toArray, List.set_cons_succ, List.set_cons_zero]
  refine wpK_nil fun w7 hw7 => ?_
  have b7 := B6.out.trans (hw7.mono B6.out.size)
  clear hw7
  go_wp2_with fail
  go_ret
  exact ⟨rfl, b7⟩
end Go.Proofs.YtfgmgfniolmpkaaDoor
