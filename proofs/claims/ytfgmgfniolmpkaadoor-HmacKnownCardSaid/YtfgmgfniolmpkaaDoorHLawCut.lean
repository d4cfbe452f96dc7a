/-
  The walk of HmacCut.
-/
import Derived.Test.YtfgmgfniolmpkaaDoorHStr
import Derived.Test.YtfgmgfniolmpkaaDoorRegRel
namespace Go.Proofs.YtfgmgfniolmpkaaDoor
open Go.ChangeShapes Go.WideShapes Go.ChangeAt Go.RowKit
attribute [local go_sem] Gives
/-- Four numbers of 16 bits by value. -/
def u16s (p : Nat → Nat) : Array Value := row 4 fun k => .int .u16 (p k)
theorem cut_tmod (a b : Nat) : (a : Int).tmod ((b : Int) + 1) = ((a % (b + 1) : Nat) : Int) := by
  rw [Int.tmod_eq_emod_of_nonneg (Int.natCast_nonneg _), Int.natCast_emod]; rfl
/-- What the operations of the comparison of Parts with Of yield. -/
def cS (K : Option Addr) (kn kcap : Nat) (A : Option Addr) (n cap i k : Nat) (s1 s2 s3 T : Value) : Nat → Value → Prop
  | 0, v => v = .slice K kn kcap
  | 1, v => v = .slice A n cap
  | 2, v => v = .int .i64 (i : Int)
  | 3, v => v = s1
  | 4, v => v = .slice A n cap
  | 5, v => v = .int .i64 (i : Int)
  | 6, v => v = .int .i64 (k : Int)
  | 7, v => v = s2
  | 8, v => v = .slice A n cap
  | 9, v => v = .int .i64 (k : Int)
  | 10, v => v = s3
  | 11, v => ∃ g, v = .slice (some ⟨g, 0, none⟩) 4 4
  | 12, v => v = T
  | 13, v => v = .slice K kn kcap
  | 14, v => v = .slice A n cap
  | 15, v => v = T
  | 16, v => v = .bool false
  | _, _ => True
def cV (K : Option Addr) (kn kcap : Nat) (A : Option Addr) (n cap i k : Nat) (s1 s2 s3 T : Value) : Nat → Value
  | 0 => .slice K kn kcap
  | 1 => .slice A n cap
  | 2 => .int .i64 (i : Int)
  | 3 => s1
  | 4 => .slice A n cap
  | 5 => .int .i64 (i : Int)
  | 6 => .int .i64 (k : Int)
  | 7 => s2
  | 8 => .slice A n cap
  | 9 => .int .i64 (k : Int)
  | 10 => s3
  | 11 => .slice (some ⟨0, 0, none⟩) 4 4
  | 12 => T
  | 13 => .slice K kn kcap
  | 14 => .slice A n cap
  | 15 => T
  | 16 => .bool false
  | _ => undef
theorem cS_ok (K : Option Addr) (kn kcap : Nat) (A : Option Addr) (n cap i k : Nat) (s1 s2 s3 T : Value) : ∀ j, cS K kn kcap A n cap i k s1 s2 s3 T j (cV K kn kcap A n cap i k s1 s2 s3 T j)
  | 0 | 1 | 2 | 3 | 4 | 5 | 6 | 7 | 8 | 9 | 10 | 12 | 13 | 14 | 15 | 16 => rfl
  | 11 => ⟨0, rfl⟩
  | _ + 17 => trivial
def cD (ls : List (List Nat)) : Nat → (Nat → Value) → World → Prop
  | 11, vs, w => ∀ g, vs 11 = .slice (some ⟨g, 0, none⟩) 4 4 → Prts w w.heap.size (some ⟨g, 0, none⟩) ls
  | _, _, _ => True
theorem prts_lit {w : World} {B g : Nat} {t : TypeId} {cs : Array Value} {ls : List (List Nat)} (hb : Blk w g t cs) (hg : g < B) (h : ∀ i, i < ls.length → ∃ A' c, cs[i]? = some (.slice A' (ls.getD i []).length c) ∧ (ls.getD i []).length ≤ c ∧ c ≤ maxLen ∧ Byt w B A' (ls.getD i [])) : Prts w B (some ⟨g, 0, none⟩) ls := fun _ =>
  ⟨g, 0, rfl, hg, fun i hi => by
    obtain ⟨A', c, h1, h2, h3, h4⟩ := h i hi
    exact ⟨A', c, by rw [Nat.zero_add, hb.cell i, h1], h2, h3, h4⟩⟩
theorem flat_cut (l : List Nat) {i k : Nat} (h : i ≤ k) : flat [l.take i, (l.take k).drop i, [], l.drop k] = l := by
  have e : l.take i ++ (l.take k).drop i = l.take k := by
    conv => rhs; rw [← List.take_append_drop i (l.take k)]
    rw [List.take_take, Nat.min_eq_left h]
  simp only [flat, List.flatten_cons, List.flatten_nil, List.append_nil, List.nil_append, ← List.append_assoc, e, List.take_append_drop]
theorem cD_ok {ls : List (List Nat)} {vs : Nat → Value} {w w' : World} (j : Nat) (h : cD ls j vs w) (hb : Below w.heap.size w w') : cD ls j vs w' := by
  unfold cD at h ⊢
  split
  · exact fun g e => ((h g e).below hb (Nat.le_refl _)).more hb.size
  · trivial
theorem cD_loc {ls : List (List Nat)} {vs : Nat → Value} {w : World} {i j : Nat} {v : Value} (hji : j ≠ i) (h : cD ls j vs w) : cD ls j (updV vs i v) w := by
  unfold cD at h ⊢
  split
  · exact fun g e => h g (by rw [updV_ne _ _ hji] at e; exact e)
  · trivial
set_option maxHeartbeats 600000 in
set_option maxRecDepth 100000 in
theorem hcut_law (K : Option Addr) (key : List Nat) (kn kcap : Nat) (A : Option Addr) (l : List Nat) (n cap : Nat) (p : Nat → Nat) (hp : ∀ k, p k < 65536) (w : World) (hK : Arg w K key kn kcap) (hA : Arg w A l n cap) (hS : Salts w) :
    Calls Tryd.prog 8 #[.slice K kn kcap, .slice A n cap, .agg (u16s p)] w fun e w' => e = .returned (.bool true) ∧ Below w.heap.size w w' := by
  have CK := hid fun w => cut_any K kn kcap hK.cap hK.max w
  have CB := hid fun w => cut_any A n cap hA.cap hA.max w
  have k1 := hK.cut
  have a1 := hA.cut
  have hk1000 : min kn 1000 ≤ 1000 := by omega
  have hn1000 : min n 1000 ≤ 1000 := by omega
  generalize key.take 1000 = key' at *
  generalize l.take 1000 = l' at *
  generalize min kn 1000 = kn' at *
  generalize min n 1000 = n' at *
  have HK := hid k1
  have HA := hid a1
  have SA := hid hS
  have hcap : n' ≤ cap := a1.cap
  have hmax : cap ≤ maxLen := a1.max
  have hp0 := hp 0
  have hp1 := hp 1
  have hp2 := hp 2
  have hp3 := hp 3
  clear hK hA k1 a1 hS hp
  go_enter Tryd.func8, Tryd.ntmps8
  go_upto_region 1 with fail
  generalize hw1 : World.alloc w _ = w1
  obtain ⟨g, hg⟩ : ∃ g, g = w.heap.size := ⟨_, rfl⟩
  have b1 : Blk w1 g 43 (u16s p) := by rw [← hw1, hg]; exact Blk.top rfl rfl
  have h1 : Below w.heap.size w w1 := by rw [← hw1]; exact (Below.refl _ _).alloc (Nat.le_refl _) _
  have k1 := HK.out.on h1
  have l1 := HA.out.on h1
  have s1 := SA.out.on h1
  rw [← hg]
  clear HK HA SA hw1
  have hgw : w.heap.size ≤ g := by omega
  have HK := hid k1
  have HA := hid l1
  have SA := hid s1
  have H1 := hid h1
  have B1 := hid b1
  clear k1 l1 s1 h1 b1 hg
  go_wp2_with fail
  refine (CK.out w1).mono ?_
  rintro e w' ⟨rfl, rfl⟩
  go_wp2_with fail
  refine (CB.out w1).mono ?_
  rintro e w' ⟨rfl, rfl⟩
  clear CK CB
  have c0 : w1.cell? ⟨g, 0, none⟩ = some (.int .u16 (p 0)) := B1.out.cell 0
  have c1 : w1.cell? ⟨g, 1, none⟩ = some (.int .u16 (p 1)) := B1.out.cell 1
  have e0 := cut_tmod (p 0) n'
  have hi : p 0 % (n' + 1) ≤ n' := by have := Nat.mod_lt (p 0) (show 0 < n' + 1 by omega); omega
  generalize p 0 % (n' + 1) = i at *
  go_upto_region 4 with fail
  have hj : p 1 % (n' - i + 1) ≤ n' - i := by have := Nat.mod_lt (p 1) (show 0 < n' - i + 1 by omega); omega
  obtain ⟨k, hk⟩ : ∃ k, k = i + p 1 % (n' - i + 1) := ⟨_, rfl⟩
  have e1 : wrap64 ((i : Int) + (p 1 : Int) % ((n' : Int) - (i : Int) + 1)) = (k : Int) := by
    rw [show (n' : Int) - (i : Int) + 1 = ((n' - i + 1 : Nat) : Int) by omega, ← Int.natCast_emod, show (i : Int) + ((p 1 % (n' - i + 1) : Nat) : Int) = (k : Int) by omega]
    unfold wrap64; omega
  rw [e1]
  have hik : i ≤ k := by rw [hk]; exact Nat.le_add_right _ _
  have hkn : k ≤ n' := by rw [hk]; exact Nat.le_trans (Nat.add_le_add_left hj i) (Nat.le_of_eq (Nat.add_sub_cancel' hi))
  clear e0 e1 c1 hj hk hp1 c0 hp0
  have hic : i ≤ cap := Nat.le_trans hi hcap
  have hkc : k ≤ cap := Nat.le_trans hkn hcap
  refine wp_region_rel (S := cS K kn' kcap A n' cap i k (.slice A i cap) (.slice (if cap = i then A else A.map fun x => x.add i) (k - i : Nat) (cap - i : Nat)) (.slice (if cap = k then A else A.map fun x => x.add k) (n' - k : Nat) (cap - k : Nat)) (.agg (tag (HmM.tag key' l')))) (D := cD [l'.take i, (l'.take k).drop i, [], l'.drop k]) (K := fun _ _ w w' => Below w.heap.size w w') (C := fun w' => Below w1.heap.size w1 w') 17 (by kernel_rfl) (by kernel_rfl) (by kernel_rfl)
    _ (cS_ok K kn' kcap A n' cap i k _ _ _ _) (fun i j vs w w' _ _ h hb => cD_ok j h hb) (fun j i vs v w hji _ h => cD_loc hji h) (Below.refl _ _).drew fun vs => ?_
  simp only [List.take_succ_cons, List.take_zero, List.drop_succ_cons, List.drop_zero]
  refine ⟨.inl ⟨rfl, fun w' hC hDs => ⟨_, rfl, ?_⟩⟩, fun e => ?_⟩
  · go_simp
    first | exact ⟨rfl, hC, Below.refl _ _, trivial⟩ | exact ⟨hC, Below.refl _ _, trivial⟩ | exact ⟨rfl, Below.refl _ _, trivial⟩ | exact ⟨Below.refl _ _, trivial⟩
  have e' : vs 0 = _ := e
  rw [e']
  clear e e'
  simp only [Act.put, List.setIfInBounds_toArray, List.set_cons_succ, List.set_cons_zero]
  refine ⟨.inl ⟨rfl, fun w' hC hDs => ⟨_, rfl, ?_⟩⟩, fun e => ?_⟩
  · go_simp
    first | exact ⟨rfl, hC, Below.refl _ _, trivial⟩ | exact ⟨hC, Below.refl _ _, trivial⟩ | exact ⟨rfl, Below.refl _ _, trivial⟩ | exact ⟨Below.refl _ _, trivial⟩
  have e' : vs 1 = _ := e
  rw [e']
  clear e e'
  simp only [Act.put, List.setIfInBounds_toArray, List.set_cons_succ, List.set_cons_zero]
  refine ⟨.inl ⟨rfl, fun w' hC hDs => ⟨_, rfl, ?_⟩⟩, fun e => ?_⟩
  · go_simp
    first | exact ⟨rfl, hC, Below.refl _ _, trivial⟩ | exact ⟨hC, Below.refl _ _, trivial⟩ | exact ⟨rfl, Below.refl _ _, trivial⟩ | exact ⟨Below.refl _ _, trivial⟩
  have e' : vs 2 = _ := e
  rw [e']
  clear e e'
  simp only [Act.put, List.setIfInBounds_toArray, List.set_cons_succ, List.set_cons_zero]
  refine ⟨.inl ⟨rfl, fun w' hC hDs => ⟨_, rfl, ?_⟩⟩, fun e => ?_⟩
  · go_simp
    first | exact ⟨rfl, hC, Below.refl _ _, trivial⟩ | exact ⟨hC, Below.refl _ _, trivial⟩ | exact ⟨rfl, Below.refl _ _, trivial⟩ | exact ⟨Below.refl _ _, trivial⟩
  have e' : vs 3 = _ := e
  rw [e']
  clear e e'
  simp only [Act.put, List.setIfInBounds_toArray, List.set_cons_succ, List.set_cons_zero]
  refine ⟨.inl ⟨rfl, fun w' hC hDs => ⟨_, rfl, ?_⟩⟩, fun e => ?_⟩
  · go_simp
    first | exact ⟨rfl, hC, Below.refl _ _, trivial⟩ | exact ⟨hC, Below.refl _ _, trivial⟩ | exact ⟨rfl, Below.refl _ _, trivial⟩ | exact ⟨Below.refl _ _, trivial⟩
  have e' : vs 4 = _ := e
  rw [e']
  clear e e'
  simp only [Act.put, List.setIfInBounds_toArray, List.set_cons_succ, List.set_cons_zero]
  refine ⟨.inl ⟨rfl, fun w' hC hDs => ⟨_, rfl, ?_⟩⟩, fun e => ?_⟩
  · go_simp
    first | exact ⟨rfl, hC, Below.refl _ _, trivial⟩ | exact ⟨hC, Below.refl _ _, trivial⟩ | exact ⟨rfl, Below.refl _ _, trivial⟩ | exact ⟨Below.refl _ _, trivial⟩
  have e' : vs 5 = _ := e
  rw [e']
  clear e e'
  simp only [Act.put, List.setIfInBounds_toArray, List.set_cons_succ, List.set_cons_zero]
  refine ⟨.inl ⟨rfl, fun w' hC hDs => ⟨_, rfl, ?_⟩⟩, fun e => ?_⟩
  · go_simp
    first | exact ⟨rfl, hC, Below.refl _ _, trivial⟩ | exact ⟨hC, Below.refl _ _, trivial⟩ | exact ⟨rfl, Below.refl _ _, trivial⟩ | exact ⟨Below.refl _ _, trivial⟩
  have e' : vs 6 = _ := e
  rw [e']
  clear e e'
  simp only [Act.put, List.setIfInBounds_toArray, List.set_cons_succ, List.set_cons_zero]
  refine ⟨.inl ⟨rfl, fun w' hC hDs => ⟨_, rfl, ?_⟩⟩, fun e => ?_⟩
  · go_simp
    first | exact ⟨rfl, hC, Below.refl _ _, trivial⟩ | exact ⟨hC, Below.refl _ _, trivial⟩ | exact ⟨rfl, Below.refl _ _, trivial⟩ | exact ⟨Below.refl _ _, trivial⟩
  have e' : vs 7 = _ := e
  rw [e']
  clear e e'
  simp only [Act.put, List.setIfInBounds_toArray, List.set_cons_succ, List.set_cons_zero]
  refine ⟨.inl ⟨rfl, fun w' hC hDs => ⟨_, rfl, ?_⟩⟩, fun e => ?_⟩
  · go_simp
    first | exact ⟨rfl, hC, Below.refl _ _, trivial⟩ | exact ⟨hC, Below.refl _ _, trivial⟩ | exact ⟨rfl, Below.refl _ _, trivial⟩ | exact ⟨Below.refl _ _, trivial⟩
  have e' : vs 8 = _ := e
  rw [e']
  clear e e'
  simp only [Act.put, List.setIfInBounds_toArray, List.set_cons_succ, List.set_cons_zero]
  refine ⟨.inl ⟨rfl, fun w' hC hDs => ⟨_, rfl, ?_⟩⟩, fun e => ?_⟩
  · go_simp
    first | exact ⟨rfl, hC, Below.refl _ _, trivial⟩ | exact ⟨hC, Below.refl _ _, trivial⟩ | exact ⟨rfl, Below.refl _ _, trivial⟩ | exact ⟨Below.refl _ _, trivial⟩
  have e' : vs 9 = _ := e
  rw [e']
  clear e e'
  simp only [Act.put, List.setIfInBounds_toArray, List.set_cons_succ, List.set_cons_zero]
  refine ⟨.inl ⟨rfl, fun w' hC hDs => ⟨_, rfl, ?_⟩⟩, fun e => ?_⟩
  · go_simp
    first | exact ⟨rfl, hC, Below.refl _ _, trivial⟩ | exact ⟨hC, Below.refl _ _, trivial⟩ | exact ⟨rfl, Below.refl _ _, trivial⟩ | exact ⟨Below.refl _ _, trivial⟩
  have e' : vs 10 = _ := e
  rw [e']
  clear e e'
  simp only [Act.put, List.setIfInBounds_toArray, List.set_cons_succ, List.set_cons_zero]
  refine ⟨.inl ⟨rfl, fun w' hC hDs => ⟨_, ⟨w'.heap.size, rfl⟩, ?_⟩⟩, fun e => ?_⟩
  · go_simp
    generalize hw2 : World.alloc w' _ = w2
    have h2 : Below w'.heap.size w' w2 := by rw [← hw2]; exact (Below.refl _ _).alloc (Nat.le_refl _) _
    refine ⟨hC.trans (h2.mono hC.size), h2, fun g0 e => ?_⟩
    rw [updV_self] at e
    cases e
    have bl : Blk w2 w'.heap.size 22 #[.slice A i cap, .slice (if cap = i then A else A.map fun x => x.add i) (k - i : Nat) (cap - i : Nat), .slice none 0 0, .slice (if cap = k then A else A.map fun x => x.add k) (n' - k : Nat) (cap - k : Nat)] := by rw [← hw2]; exact Blk.top rfl rfl
    have ha := HA.out.on (hC.trans (h2.mono hC.size))
    have hl := ha.len
    refine prts_lit bl bl.lt fun j hj => ?_
    have hlk : (l'.take k).length = k := by rw [List.length_take, hl]; omega
    match j, hj with
    | 0, _ => exact ⟨A, cap, by rw [show ([l'.take i, (l'.take k).drop i, [], l'.drop k].getD 0 []).length = i by show (l'.take i).length = i; rw [List.length_take, hl]; omega]; rfl, by show (l'.take i).length ≤ cap; rw [List.length_take, hl]; omega, hmax, ha.byt.take i⟩
    | 1, _ => exact ⟨_, cap - i, by rw [show ([l'.take i, (l'.take k).drop i, [], l'.drop k].getD 1 []).length = k - i by show ((l'.take k).drop i).length = k - i; rw [List.length_drop, hlk]]; rfl, by show ((l'.take k).drop i).length ≤ cap - i; rw [List.length_drop, hlk]; omega, Nat.le_trans (Nat.sub_le _ _) hmax, (ha.byt.take k).dropA cap i (by rw [hlk]; exact hkc)⟩
    | 2, _ => exact ⟨none, 0, rfl, Nat.le_refl _, Nat.zero_le _, Byt.none rfl⟩
    | 3, _ => exact ⟨_, cap - k, by rw [show ([l'.take i, (l'.take k).drop i, [], l'.drop k].getD 3 []).length = n' - k by show (l'.drop k).length = n' - k; rw [List.length_drop, hl]]; rfl, by show (l'.drop k).length ≤ cap - k; rw [List.length_drop, hl]; omega, Nat.le_trans (Nat.sub_le _ _) hmax, ha.byt.dropA cap k (by rw [hl]; exact hcap)⟩
  obtain ⟨g1, e'⟩ := e
  have Eg1 := hid e'
  rw [e']
  clear e'
  try simp only [Act.put, List.setIfInBounds_toArray, List.set_cons_succ, List.set_cons_zero]
  refine ⟨.inl ⟨rfl, fun w' hC hDs => ⟨_, rfl, ?_⟩⟩, fun e => ?_⟩
  · have hy := hDs 11 (by kernel_rfl) g1 Eg1.out
    go_simp
    have hf := flat_cut l' hik
    refine (parts_any K key' kn' kcap HK.out.len HK.out.cap HK.out.max (by omega) HK.out.b256 _ [l'.take i, (l'.take k).drop i, [], l'.drop k] 4 4 rfl (by omega) (fun x hx => ?_) (by rw [hf, HA.out.len]; omega) w' (HK.out.on hC).byt hy (SA.out.on hC)).mono fun e w'' ⟨he, hb⟩ => ⟨by rw [hf] at he; exact he, hC.trans (hb.mono hC.size), hb, trivial⟩
    intro y hy
    refine HA.out.b256 y ?_
    rw [← hf]
    exact List.mem_flatten.2 ⟨x, hx, hy⟩
  have e' : vs 12 = _ := e
  rw [e']
  clear e e'
  try simp only [Act.put, List.setIfInBounds_toArray, List.set_cons_succ, List.set_cons_zero]
  refine ⟨.inl ⟨rfl, fun w' hC hDs => ⟨_, rfl, ?_⟩⟩, fun e => ?_⟩
  · go_simp
    first | exact ⟨rfl, hC, Below.refl _ _, trivial⟩ | exact ⟨hC, Below.refl _ _, trivial⟩ | exact ⟨rfl, Below.refl _ _, trivial⟩ | exact ⟨Below.refl _ _, trivial⟩
  have e' : vs 13 = _ := e
  rw [e']
  clear e e'
  simp only [Act.put, List.setIfInBounds_toArray, List.set_cons_succ, List.set_cons_zero]
  refine ⟨.inl ⟨rfl, fun w' hC hDs => ⟨_, rfl, ?_⟩⟩, fun e => ?_⟩
  · go_simp
    first | exact ⟨rfl, hC, Below.refl _ _, trivial⟩ | exact ⟨hC, Below.refl _ _, trivial⟩ | exact ⟨rfl, Below.refl _ _, trivial⟩ | exact ⟨Below.refl _ _, trivial⟩
  have e' : vs 14 = _ := e
  rw [e']
  clear e e'
  simp only [Act.put, List.setIfInBounds_toArray, List.set_cons_succ, List.set_cons_zero]
  refine ⟨.inl ⟨rfl, fun w' hC hDs => ⟨_, rfl, ?_⟩⟩, fun e => ?_⟩
  · go_simp
    refine (hof_any K key' kn' kcap HK.out.len HK.out.cap HK.out.max (by omega) HK.out.b256 A l' n' cap HA.out.len HA.out.cap HA.out.max HA.out.b256 (by omega) w' (HK.out.on hC).byt (HA.out.on hC).byt (SA.out.on hC)).mono fun e w'' ⟨he, hb⟩ => ⟨he, hC.trans (hb.mono hC.size), hb, trivial⟩
  have e' : vs 15 = _ := e
  rw [e']
  clear e e'
  try simp only [Act.put, List.setIfInBounds_toArray, List.set_cons_succ, List.set_cons_zero]
  refine ⟨.inl ⟨rfl, fun w' hC hDs => ⟨_, rfl, ?_⟩⟩, fun e => ?_⟩
  · have heq := eq_tag_self (HmM.tag key' l')
    go_simp
    exact ⟨Below.refl _ _, trivial⟩
  have e' : vs 16 = _ := e
  rw [e']
  clear e e'
  try simp only [Act.put, List.setIfInBounds_toArray, List.set_cons_succ, List.set_cons_zero]
  intro w2 hC hDs
  clear hDs Eg1
  have HK2 := hid (HK.out.on hC)
  have HA2 := hid (HA.out.on hC)
  have SA2 := hid (SA.out.on hC)
  have B2 := hid (B1.out.below hC B1.out.lt)
  have H2 := hid (H1.out.trans (hC.mono H1.out.size))
  clear hC HK HA SA B1 H1 vs
  clear w1
  generalize Value.slice (if cap = i then A else Option.map (fun x => x.add i) A) (k - i) (cap - i) = s2
  generalize Value.slice (if cap = k then A else Option.map (fun x => x.add k) A) (n' - k) (cap - k) = s3
  have c2 : w2.cell? ⟨g, 2, none⟩ = some (.int .u16 (p 2)) := B2.out.cell 2
  have c3 : w2.cell? ⟨g, 3, none⟩ = some (.int .u16 (p 3)) := B2.out.cell 3
  have e2 : (p 2 : Int).tmod 8161 = ((p 2 % 8161 : Nat) : Int) := by rw [Int.tmod_eq_emod_of_nonneg (Int.natCast_nonneg _)]; rfl
  have hN : p 2 % 8161 ≤ 8160 := by have := Nat.mod_lt (p 2) (show 0 < 8161 by omega); omega
  generalize p 2 % 8161 = N at *
  go_upto_region 8 with fail
  have e3 : (p 3 : Int) % ((N : Int) + 1) = ((p 3 % (N + 1) : Nat) : Int) := by rw [Int.natCast_emod]; rfl
  have hM : p 3 % (N + 1) ≤ N := by have := Nat.mod_lt (p 3) (show 0 < N + 1 by omega); omega
  rw [e3]
  clear e2 e3 c2 c3 hp2 hp3 B2
  generalize p 3 % (N + 1) = M at *
  go_wp2_with fail
  refine (hstretch_any K key' kn' kcap A l' n' cap N (by omega) (by omega) hN w2 HK2.out HA2.out SA2.out).mono ?_
  rintro e w3 ⟨A3, c3, rfl, a3, h3⟩
  have HK3 := hid (HK2.out.on h3)
  have HA3 := hid (HA2.out.on h3)
  have SA3 := hid (SA2.out.on h3)
  have H3 := hid (H2.out.trans (h3.mono H2.out.size))
  have X3 := hid a3
  clear a3 h3 HK2 HA2 SA2 H2
  clear w2
  go_wp2_with fail
  refine (hstretch_any K key' kn' kcap A l' n' cap M (by omega) (by omega) (by omega) w3 HK3.out HA3.out SA3.out).mono ?_
  rintro e w4 ⟨A4, c4, rfl, a4, h4⟩
  have X4 := hid (X3.out.on h4)
  have SA4 := hid (SA3.out.on h4)
  have H4 := hid (H3.out.trans (h4.mono H3.out.size))
  have Y4 := hid a4
  clear a4 h4 HK3 HA3 SA3 H3 X3
  clear w3
  have hMc : M ≤ c3 := Nat.le_trans hM X4.out.cap
  have ST := hid (HmM.stretch_take key' l' hM)
  go_wp2_with fail
  refine wp_region_tail (C := fun w' => Below w4.heap.size w4 w') 24 (by kernel_rfl) (by kernel_rfl) (by kernel_rfl) (Below.refl _ _).drew ?_
  simp only [List.take_succ_cons, List.take_zero, List.drop_succ_cons, List.drop_zero]
  apply wpK_val
  · rfl
  · intro w' hw'
    go_simp
    first | exact rfl | exact ⟨rfl, hw'⟩
  simp only [Act.put, List.setIfInBounds_toArray, List.set_cons_succ, List.set_cons_zero]
  apply wpK_val
  · rfl
  · intro w' hw'
    go_simp
    first | exact rfl | exact ⟨rfl, hw'⟩
  simp only [Act.put, List.setIfInBounds_toArray, List.set_cons_succ, List.set_cons_zero]
  apply wpK_val
  · rfl
  · intro w' hw'
    go_simp
    first | exact rfl | exact ⟨rfl, hw'⟩
  simp only [Act.put, List.setIfInBounds_toArray, List.set_cons_succ, List.set_cons_zero]
  apply wpK_val
  · rfl
  · intro w' hw'
    go_simp
    first | exact rfl | exact ⟨rfl, hw'⟩
  simp only [Act.put, List.setIfInBounds_toArray, List.set_cons_succ, List.set_cons_zero]
  apply wpK_val
  · rfl
  · intro w' hw'
    go_simp
    first | exact rfl | exact ⟨rfl, hw'⟩
  simp only [Act.put, List.setIfInBounds_toArray, List.set_cons_succ, List.set_cons_zero]
  apply wpK_val
  · rfl
  · intro w' hw'
    go_simp
    first | exact rfl | exact ⟨rfl, hw'⟩
  simp only [Act.put, List.setIfInBounds_toArray, List.set_cons_succ, List.set_cons_zero]
  apply wpK_val
  · rfl
  · intro w' hw'
    go_simp
    first | exact rfl | exact ⟨rfl, hw'⟩
  simp only [Act.put, List.setIfInBounds_toArray, List.set_cons_succ, List.set_cons_zero]
  apply wpK_val
  · rfl
  · intro w' hw'
    go_simp
    first | exact rfl | exact ⟨rfl, hw'⟩
  simp only [Act.put, List.setIfInBounds_toArray, List.set_cons_succ, List.set_cons_zero]
  apply wpK_val
  · rfl
  · intro w' hw'
    go_simp
    first | exact rfl | exact ⟨rfl, hw'⟩
  simp only [Act.put, List.setIfInBounds_toArray, List.set_cons_succ, List.set_cons_zero]
  apply wpK_val
  · rfl
  · intro w' hw'
    go_simp
    first | exact rfl | exact ⟨rfl, hw'⟩
  simp only [Act.put, List.setIfInBounds_toArray, List.set_cons_succ, List.set_cons_zero]
  apply wpK_val
  · rfl
  · intro w' hw'
    go_simp
    first | exact rfl | exact ⟨rfl, hw'⟩
  simp only [Act.put, List.setIfInBounds_toArray, List.set_cons_succ, List.set_cons_zero]
  apply wpK_val
  · rfl
  · intro w' hw'
    go_simp
    first | exact rfl | exact ⟨rfl, hw'⟩
  simp only [Act.put, List.setIfInBounds_toArray, List.set_cons_succ, List.set_cons_zero]
  apply wpK_val
  · rfl
  · intro w' hw'
    go_simp
    first | exact rfl | exact ⟨rfl, hw'⟩
  simp only [Act.put, List.setIfInBounds_toArray, List.set_cons_succ, List.set_cons_zero]
  apply wpK_val
  · rfl
  · intro w' hw'
    go_simp
    first | exact rfl | exact ⟨rfl, hw'⟩
  simp only [Act.put, List.setIfInBounds_toArray, List.set_cons_succ, List.set_cons_zero]
  apply wpK_val
  · rfl
  · intro w' hw'
    go_simp
    first | exact rfl | exact ⟨rfl, hw'⟩
  simp only [Act.put, List.setIfInBounds_toArray, List.set_cons_succ, List.set_cons_zero]
  apply wpK_val
  · rfl
  · intro w' hw'
    go_simp
    first | exact rfl | exact ⟨rfl, hw'⟩
  simp only [Act.put, List.setIfInBounds_toArray, List.set_cons_succ, List.set_cons_zero]
  apply wpK_val
  · rfl
  · intro w' hw'
    have h1 : (convert 22 9 (.slice A3 M c3)).run Tryd.prog w' = .ok (.string (str (HmM.stretch key' l' M))) w' := by have := run_bytes_str (A := A3) (l := (HmM.stretch key' l' N).take M) (n := M) (cap := c3) (B := w'.heap.size) (by rw [ST.out]; exact Y4.out.len) (X4.out.b256.take M) (fun e => by have := X4.out.none e; omega) ((X4.out.on hw').byt.take M); rw [ST.out] at this; exact this
    go_simp
    first | exact rfl | exact ⟨rfl, hw'⟩
  simp only [Act.put, List.setIfInBounds_toArray, List.set_cons_succ, List.set_cons_zero]
  apply wpK_val
  · rfl
  · intro w' hw'
    go_simp
    first | exact rfl | exact ⟨rfl, hw'⟩
  simp only [Act.put, List.setIfInBounds_toArray, List.set_cons_succ, List.set_cons_zero]
  apply wpK_val
  · rfl
  · intro w' hw'
    have h1 : _ := (Y4.out.on hw').str
    go_simp
    first | exact rfl | exact ⟨rfl, hw'⟩
  simp only [Act.put, List.setIfInBounds_toArray, List.set_cons_succ, List.set_cons_zero]
  apply wpK_val
  · rfl
  · intro w' hw'
    go_simp
    first | exact rfl | exact ⟨rfl, hw'⟩
  simp only [Act.put, List.setIfInBounds_toArray, List.set_cons_succ, List.set_cons_zero]
  apply wpK_val
  · rfl
  · intro w' hw'
    go_simp
    first | exact rfl | exact ⟨rfl, hw'⟩
  simp only [Act.put, List.setIfInBounds_toArray, List.set_cons_succ, List.set_cons_zero]
  apply wpK_val
  · rfl
  · intro w' hw'
    go_simp
    first | exact rfl | exact ⟨rfl, hw'⟩
  simp only [Act.put, List.setIfInBounds_toArray, List.set_cons_succ, List.set_cons_zero]
  apply wpK_val
  · rfl
  · intro w' hw'
    go_simp
    exact (works_any _ (SA4.out.on hw')).mono fun e w'' ⟨he, hb''⟩ => ⟨he, hw'.trans (hb''.mono hw'.size)⟩
  simp only [Act.put, List.setIfInBounds_toArray, List.set_cons_succ, List.set_cons_zero]
  apply wpK_val
  · rfl
  · intro w' hw'
    go_simp
    first | exact rfl | exact ⟨rfl, hw'⟩
  simp only [Act.put, List.setIfInBounds_toArray, List.set_cons_succ, List.set_cons_zero]
  refine wpK_nil fun w7 hw7 => ?_
  have b7 := H4.out.trans (hw7.mono H4.out.size)
  clear hw7
  go_wp2_with fail
  go_ret
  exact ⟨rfl, b7⟩
end Go.Proofs.YtfgmgfniolmpkaaDoor
