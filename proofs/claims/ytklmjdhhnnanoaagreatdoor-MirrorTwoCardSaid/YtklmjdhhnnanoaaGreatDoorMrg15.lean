/-
  Contract of the document's tag (casemateref04.Of) over this translation.
  Contracts of casemateref17.Tag and Join.
  Contract of casemateref17.Split: a region that draws its order, in which two rows are loaded and two are stored.
  Regions whose values hang on their order: what each operation yields as a list of known values, and slices of known bytes wherever they lie.
  Contracts of casemateref17.Leaf, Node, Label, Head and Body: a message laid and its tag.
  What the program's tags answer, as hypotheses of the laws: TagC, beside LeafC, RestC, JoinC. (The landed code's proof of them: another text.)
  The landed tags: Of, Leaf, Node, Label, Head, Body; TagC.
  Tags and sectors compared, joined and cut: words of the laws of tags.
  The landed mirror: ReadNode, what it stands on.
  Mirrors in plain words: a bus without steps; who takes it; which node is read.
  The landed mirror: ReadNode.
  Contract of casemateref16.Ints: two lists of ints compared.
  Lists of elements: a literal of three elements.
  Lists of elements: a literal of four elements.
  The laws' own calls: given, node, small, is, awake.
-/
import Derived.Test.YtklmjdhhnnanoaaGreatDoorMrg14
import Derived.Laws.BitsAllLaws
import Derived.WalkKit
import Derived.ProofKit
set_option linter.unusedVariables false
set_option linter.unusedSimpArgs false
set_option maxRecDepth 100000
namespace Go.Proofs.YtklmjdhhnnanoaaGreatDoor
open Go.ChangeShapes Go.WideShapes Go.ChangeAt Go.RowKit
attribute [local go_sem] Gives
end Go.Proofs.YtklmjdhhnnanoaaGreatDoor
set_option maxRecDepth 100000
namespace Go.Proofs.YtklmjdhhnnanoaaGreatDoor
open Go.ChangeShapes Go.WideShapes Go.ChangeAt Go.RowKit
attribute [local go_sem] Gives
namespace TgP
def joinTo (i : Nat) (f g : Nat → Nat) (j : Nat) : Nat := if j < i then f j else if 32 ≤ j ∧ j < 32 + i then g (j - 32) else 0
end TgP
end Go.Proofs.YtklmjdhhnnanoaaGreatDoor
set_option maxRecDepth 100000
namespace Go.Proofs.YtklmjdhhnnanoaaGreatDoor
open Go.ChangeShapes Go.WideShapes Go.ChangeAt Go.RowKit
attribute [local go_sem] Gives
namespace TgP
def T2 (g0 g1 g2 g3 : Nat) (B : Nat) (w : World) (K F : Nat → Nat) (d : Nat → Bool) (w' : World) : Prop :=
  Blk w' g2 81 (ar 32 K) ∧ Blk w' g3 81 (ar 32 F) ∧ Blk w' g0 81 (ar 32 (if d 2 then K else fun _ => 0)) ∧ Blk w' g1 81 (ar 32 (if d 3 then F else fun _ => 0)) ∧ Below B w w'
end TgP
end Go.Proofs.YtklmjdhhnnanoaaGreatDoor
set_option maxRecDepth 100000
namespace Go.Proofs.YtklmjdhhnnanoaaGreatDoor
open Go.ChangeShapes Go.WideShapes Go.ChangeAt Go.RowKit
attribute [local go_sem] GivesE
def slOf : List (Nat × List Nat) → Nat → Option (List Nat)
  | [], _ => none
  | (p, l) :: r, j => if j = p then some l else slOf r j
def eS (fx : List (Option Value)) (sl : List (Nat × List Nat)) (j : Nat) (v : Value) : Prop := match slOf sl j with
  | some l => ∃ (A : Option Addr) (c : Nat), v = .slice A l.length c
  | none => match fx[j]? with
    | some (some u) => v = u
    | _ => True
def eV (fx : List (Option Value)) (sl : List (Nat × List Nat)) (j : Nat) : Value := match slOf sl j with
  | some l => .slice none l.length 0
  | none => match fx[j]? with
    | some (some u) => u
    | _ => undef
theorem eS_ok (fx : List (Option Value)) (sl : List (Nat × List Nat)) (j : Nat) : eS fx sl j (eV fx sl j) := by
  unfold eS eV
  split
  · exact ⟨none, 0, rfl⟩
  · split
    · rfl
    · trivial
def eD (sl : List (Nat × List Nat)) (j : Nat) (vs : Nat → Value) (w : World) : Prop := ∀ l, slOf sl j = some l → ∃ A c, vs j = .slice A l.length c ∧ Arg w A l l.length c
section
variable {sl : List (Nat × List Nat)} {i j : Nat} {vs : Nat → Value} {v : Value} {w w' : World}
theorem eD_below (h : eD sl j vs w) (hb : Below w.heap.size w w') : eD sl j vs w' := fun l e => by obtain ⟨A, c, h1, h2⟩ := h l e; exact ⟨A, c, h1, h2.on hb⟩
theorem eD_loc (hji : j ≠ i) (h : eD sl j vs w) : eD sl j (updV vs i v) w := by
  unfold eD at h ⊢
  rw [updV_ne _ _ hji]
  exact h
theorem eD_none (h : slOf sl j = none) : eD sl j vs w := fun l e => by rw [h] at e; cases e
theorem eD_some {l : List Nat} {A : Option Addr} {c : Nat} (h : slOf sl j = some l) (ha : Arg w A l l.length c) : eD sl j (updV vs j (.slice A l.length c)) w := fun m e => by
  obtain rfl : l = m := Option.some.inj (h.symm.trans e)
  exact ⟨A, c, updV_self _ _ _, ha⟩
end
theorem own_sl {w' : World} {B : Nat} {v : Value} {l : List Nat} (ho : Own 5 .u8 w' B v l) (h2 : B256 l) : ∃ (A : Option Addr) (c : Nat), v = .slice A l.length c := by
  obtain ⟨A, c, rfl, ha⟩ := ho.arg h2
  exact ⟨A, c, rfl⟩
theorem own_eD {sl : List (Nat × List Nat)} {j : Nat} {vs : Nat → Value} {w' : World} {B : Nat} {v : Value} {l : List Nat} (h : slOf sl j = some l) (ho : Own 5 .u8 w' B v l) (h2 : B256 l) : eD sl j (updV vs j v) w' := by
  obtain ⟨A, c, rfl, ha⟩ := ho.arg h2
  exact eD_some h ha
theorem wp_region_eS {id : Nat} {Q : Exit → Act → World → Prop} {a : Act} {w : World} {l : List Oper} (fx : List (Option Value)) (sl : List (Nat × List Nat)) (n : Nat) (hm : Tryz.prog.follows .mixedOrders = true) (ht : tidy l.toArray = true) (hB : tailB l.toArray n = true)
    (h : ∀ vs : Nat → Value, wpE Tryz.prog l.toArray (eS fx sl) (eD sl) (fun _ _ w w' => Below w.heap.size w w') (fun _ w' => Below w.heap.size w w') (fun vs a' => ∀ (d : Nat → Bool) w', (∀ k, k < n → d k = true) → Below w.heap.size w w' → (∀ k, k < n → eD sl k vs w') → wpList Tryz.prog l.toArray Q (l.drop n) a' w') 0 vs (l.take n) a) :
    (Code.region id l.toArray true).wp Tryz.prog Q a w :=
  wp_region_ex (S := eS fx sl) (D := eD sl) (K := fun _ _ w w' => Below w.heap.size w w') (C := fun _ w' => Below w.heap.size w w') n hm ht hB _ (eS_ok _ _) (fun i j vs w w' _ _ _ h hb => eD_below h hb) (fun j i vs v w hji _ h => eD_loc hji h) (Below.refl _ _).drew h
end Go.Proofs.YtklmjdhhnnanoaaGreatDoor
set_option maxRecDepth 100000
namespace Go.Proofs.YtklmjdhhnnanoaaGreatDoor
open Go.ChangeShapes Go.WideShapes Go.ChangeAt Go.RowKit
attribute [local go_sem] Gives GivesE
namespace TgP
end TgP
end Go.Proofs.YtklmjdhhnnanoaaGreatDoor
set_option maxRecDepth 100000
namespace Go.Proofs.YtklmjdhhnnanoaaGreatDoor
open Go.ChangeShapes Go.WideShapes Go.ChangeAt Go.RowKit
attribute [local go_sem] Gives
namespace TgP
def tagN (k : Nat → Nat) (L : List Nat) : Nat → Nat := HmM.tag (HmM.dl k) L
abbrev NumTag (f d : Nat) : Prop := ∀ (k : Nat → Nat), (∀ i, k i < 256) → ∀ (num : Int), (-9223372036854775808 ≤ num ∧ num ≤ 9223372036854775807) → ∀ (s : Nat → Nat), (∀ i, s i < 256) → ∀ w : World, Salts w →
  Calls Tryz.prog f #[.agg (ar 32 k), .int .i64 num, .agg (ar 64 s)] w fun e w' => e = .returned (.agg (ar 32 (tagN k (numT d num s)))) ∧ Below w.heap.size w w'
abbrev PlainTag (f d : Nat) : Prop := ∀ (k : Nat → Nat), (∀ i, k i < 256) → ∀ (A : Option Addr) (l : List Nat) (n cap : Nat), n ≤ 10000 → ∀ w : World, Arg w A l n cap → Salts w →
  Calls Tryz.prog f #[.agg (ar 32 k), .slice A n cap] w fun e w' => e = .returned (.agg (ar 32 (tagN k (plainT d l)))) ∧ Below w.heap.size w w'
end TgP
end Go.Proofs.YtklmjdhhnnanoaaGreatDoor
set_option maxRecDepth 100000
namespace Go.Proofs.YtklmjdhhnnanoaaGreatDoor
open Go.ChangeShapes Go.WideShapes Go.ChangeAt Go.RowKit
attribute [local go_sem] Gives GivesE
namespace TgP
theorem key_argT {w : World} {g : Nat} {t : TypeId} {k : Nat → Nat} (h : Blk w g t (ar 32 k)) : Byt w w.heap.size (some ⟨g, 0, none⟩) (HmM.dl k) := fun _ =>
  ⟨g, 0, rfl, h.lt, fun i hi => by rw [HmM.dl_length] at hi; rw [Nat.zero_add, h.cell, get_ar hi, HmM.dl_get _ hi]⟩
set_option maxHeartbeats 400000 in
set_option maxRecDepth 100000 in
theorem of_any (k : Nat → Nat) (hk : ∀ i, k i < 256) (A : Option Addr) (l : List Nat) (n cap : Nat) (hn : n ≤ 90000) (w : World) (h : Arg w A l n cap) (hS : Salts w) :
    Calls Tryz.prog 66 #[.agg (ar 32 k), .slice A n cap] w fun e w' => e = .returned (.agg (ar 32 (HmM.tag (HmM.dl k) l))) ∧ Below w.heap.size w w' := by
  have HF := hid hk
  have HN := hid hn
  have H := hid h
  have SA := hid hS
  clear hk hn h hS
  go_enter Tryz.func66, Tryz.ntmps66
  go_upto_region 1 with (with_reducible apply alA tT)
  try rw [show (w.alloc (.cells (ar 32 k) 41)).heap.size = w.heap.size + 1 by simp]
  generalize hw1 : World.alloc (World.alloc w _) _ = w1
  have B1 := hid (show Blk w1 w.heap.size 41 (ar 32 k) by rw [← hw1]; exact (Blk.new _ _ _).alloc _)
  have B2 := hid (show Blk w1 (w.heap.size + 1) 81 (ar 32 fun _ => 0) by rw [← hw1]; exact Blk.top rfl (by simp))
  have hb := hid (show Below w.heap.size w w1 by rw [← hw1]; exact ((Below.refl _ _).alloc (Nat.le_refl _) _).alloc (by simp) _)
  have sa := hid (SA.out.on hb.out)
  have A1 := hid (H.out.on hb.out)
  clear hw1 SA H
  go_wp2_with fail
  refine (hof_any _ (HmM.dl k) 32 32 (HmM.dl_length k) (Nat.le_refl _) (by unfold maxLen; omega) (by omega) (HmM.dl_256 HF.out) A l n cap A1.out.len A1.out.cap A1.out.max A1.out.b256 (by have := HN.out; omega) w1 (key_argT B1.out) A1.out.byt sa.out).mono ?_
  rintro e w4 ⟨rfl, h4⟩
  rw [show tag (HmM.tag (HmM.dl k) l) = ar 32 (HmM.tag (HmM.dl k) l) from rfl]
  obtain ⟨F, hF⟩ : ∃ F, F = HmM.tag (HmM.dl k) l := ⟨_, rfl⟩
  have HFE := hid hF
  rw [← hF]
  have d2 := B2.out.below h4 B2.out.lt
  have cd := hid (hb.out.trans (h4.mono hb.out.size))
  clear hF h4 B1 B2 hb sa A1
  go_wp2_with ((with_reducible apply stA tT); rfl; rfl; exact d2)
  apply ret_ar tT Tryz.results66
  · rfl
  · rfl
  · exact d2.setRow_same _
  exact ⟨by rw [HFE.out], below_setRow cd.out (by omega) _⟩
set_option maxHeartbeats 400000 in
set_option maxRecDepth 100000 in
theorem node_any (k : Nat → Nat) (hk : ∀ i, k i < 256) (num : Int) (hnum : -9223372036854775808 ≤ num ∧ num ≤ 9223372036854775807) (s : Nat → Nat) (hs : ∀ i, s i < 256) (w : World) (hS : Salts w) :
    Calls Tryz.prog 28 #[.agg (ar 32 k), .int .i64 num, .agg (ar 64 s)] w fun e w' => e = .returned (.agg (ar 32 (HmM.tag (HmM.dl k) (BytM.rowB 78 [BytM.dig 8 (bits num), ls 64 s])))) ∧ Below w.heap.size w w' := by
  have HK := hid hk
  have SA := hid hS
  have HS := hid hs
  have HU := hid hnum
  clear hk hs hS hnum
  obtain ⟨L, hL⟩ : ∃ L, L = BytM.rowB 78 [BytM.dig 8 (bits num), ls 64 s] := ⟨_, rfl⟩
  have HL := hid hL
  have HN := hid (show L.length ≤ 90000 by rw [hL, rowB2_length]; omega)
  have HL256 := hid (show B256 L by rw [hL]; exact rowB2_256 (by omega) (BytM.dig_256 _ _) (ls_256 HS.out))
  clear hL
  obtain ⟨F, hF⟩ : ∃ F, F = HmM.tag (HmM.dl k) L := ⟨_, rfl⟩
  have HF := hid hF
  clear hF
  rw [← HL.out, ← HF.out]
  go_enter Tryz.func28, Tryz.ntmps28
  go_upto_region 1 with (with_reducible apply alA tT)
  rw [show ((w.alloc (.cells (ar 32 k) 41)).alloc (.cells (ar 64 s) 37)).heap.size = w.heap.size + 2 by simp]
  generalize hw1 : World.alloc (World.alloc (World.alloc w _) _) _ = w1
  have z0 := hid (show Blk w1 w.heap.size 41 (ar 32 k) by rw [← hw1]; exact ((Blk.new _ _ _).alloc _).alloc _)
  have z1 := hid (show Blk w1 (w.heap.size + 1) 37 (ar 64 s) by rw [← hw1]; exact (Blk.top rfl (by simp)).alloc _)
  have z2 := hid (show Blk w1 (w.heap.size + 2) 81 (ar 32 fun _ => 0) by rw [← hw1]; exact Blk.top rfl (by simp))
  have hb := hid (show Below w.heap.size w w1 by rw [← hw1]; exact (((Below.refl _ _).alloc (Nat.le_refl _) _).alloc (by simp) _).alloc (by simp; omega) _)
  have sa := hid (SA.out.on hb.out)
  clear hw1 SA
  refine wp_region_eS [some (.agg (ar 32 k)), some (.int .i64 num), some (.agg (ar 64 s)), none, some (.agg (ar 32 F))] [(3, L)] 5 (by kernel_rfl) (by kernel_rfl) (by kernel_rfl) fun vs => ?_
  simp only [List.take_succ_cons, List.take_zero, List.drop_succ_cons, List.drop_zero]
  refine ⟨.inl ⟨rfl, fun dd w' hd hC hDs => ?_⟩, fun e => ?_⟩
  · exact gE_ldA tK rfl ((z0.out.below hC z0.out.lt).head) ⟨rfl, hC, Below.refl _ _, eD_none rfl⟩
  have e' : vs 0 = _ := e
  rw [e']
  clear e e'
  simp only [Act.put, sqA, sqB, sqC]
  refine ⟨.inl ⟨rfl, fun dd w' hd hC hDs => ?_⟩, fun e => ?_⟩
  · go_simp
    first | exact ⟨rfl, hC, Below.refl _ _, eD_none rfl⟩ | exact ⟨rfl, Below.refl _ _, eD_none rfl⟩ | exact ⟨hC, Below.refl _ _, eD_none rfl⟩
  have e' : vs 1 = _ := e
  rw [e']
  clear e e'
  simp only [Act.put, sqA, sqB, sqC]
  refine ⟨.inl ⟨rfl, fun dd w' hd hC hDs => ?_⟩, fun e => ?_⟩
  · exact gE_ldA tS rfl ((z1.out.below hC z1.out.lt).head) ⟨rfl, hC, Below.refl _ _, eD_none rfl⟩
  have e' : vs 2 = _ := e
  rw [e']
  clear e e'
  simp only [Act.put, sqA, sqB, sqC]
  refine ⟨.inl ⟨rfl, fun dd w' hd hC hDs => ?_⟩, fun e => ?_⟩
  · go_simp
    refine ((by have := nodetext_any num HU.out s HS.out w'; unfold numT at this; rwa [← HL.out] at this : Calls _ _ _ _ _)).mono ?_
    rintro e w2 ⟨v, rfl, o2, h2⟩
    have hbs : B256 _ := HL256.out
    exact ⟨_, rfl, own_sl o2 hbs, hC.trans (h2.mono hC.size), h2, own_eD rfl o2 hbs⟩
  obtain ⟨A3, c3, e'⟩ : ∃ (A : Option Addr) (c : Nat), vs 3 = .slice A _ c := e
  rw [e']
  have E3 := hid e'
  clear e'
  simp only [Act.put, sqA, sqB, sqC]
  refine ⟨.inl ⟨rfl, fun dd w' hd hC hDs => ?_⟩, fun e => ?_⟩
  · obtain ⟨B3, k3, f3, a3⟩ := hDs 3 (by kernel_rfl) L rfl
    rw [E3.out] at f3
    cases f3
    go_simp
    have ht := of_any k HK.out A3 L _ _ HN.out w' a3 (sa.out.on hC)
    rw [← HF.out] at ht
    refine ht.mono ?_
    rintro e w2 ⟨rfl, h2⟩
    exact ⟨_, rfl, rfl, hC.trans (h2.mono hC.size), h2, eD_none rfl⟩
  have e' : vs 4 = _ := e
  rw [e']
  clear e e'
  simp only [Act.put, sqA, sqB, sqC]
  intro dd w4 hall hC4 hDs
  have d2 := z2.out.below hC4 z2.out.lt
  have db := hid (hb.out.trans (hC4.mono hb.out.size))
  clear hall hC4 hDs E3 z0 z1 z2 hb
  go_wp2_with ((with_reducible apply stA tT); rfl; rfl; exact d2)
  apply ret_ar tT Tryz.results28
  · rfl
  · rfl
  · exact d2.setRow_same _
  exact ⟨rfl, below_setRow db.out (by omega) _⟩
end TgP
end Go.Proofs.YtklmjdhhnnanoaaGreatDoor
set_option maxRecDepth 100000
namespace Go.Proofs.YtklmjdhhnnanoaaGreatDoor
open Go.ChangeShapes Go.WideShapes Go.ChangeAt Go.RowKit
namespace TgP
theorem uT : Tryz.prog.underlying 81 = some (.array 32 5) := Tryz.underlying81
theorem eqgT : Tryz.prog.eqGuardType Tryz.prog.depth 81 = false := by kernel_rfl
theorem eqgS : Tryz.prog.eqGuardType Tryz.prog.depth 37 = false := by kernel_rfl
end TgP
end Go.Proofs.YtklmjdhhnnanoaaGreatDoor
set_option maxRecDepth 100000
namespace Go.Proofs.YtklmjdhhnnanoaaGreatDoor
open Go.ChangeShapes Go.WideShapes Go.ChangeAt Go.RowKit Go.Shelf
attribute [local go_sem] Gives
namespace MiM
open GeM StM RgM BuP BuM MbP
theorem tKy : ArT 41 32 := ⟨by kernel_rfl, ⟨_, Tryz.underlying41, rfl⟩, (zero_of_info (P := Tryz.prog) (t := 41) (v := .agg (ar 32 fun _ => 0)) (n := 32) (by kernel_rfl)).1⟩
theorem tTg : ArT 81 32 := ⟨by kernel_rfl, ⟨_, Tryz.underlying81, rfl⟩, (zero_of_info (P := Tryz.prog) (t := 81) (v := .agg (ar 32 fun _ => 0)) (n := 32) (by kernel_rfl)).1⟩
def ndT (k : Nat → Nat) (num : Int) (s : Nat → Nat) : Nat → Nat := TgP.tagN k (TgP.numT 78 num s)
theorem ndT_eq (k : Nat → Nat) (num : Int) (s : Nat → Nat) : ndT k num s = HmM.tag (HmM.dl k) (BytM.rowB 78 [BytM.dig 8 (TgP.bits num), TgP.ls 64 s]) := rfl
theorem node_ndT (k : Nat → Nat) (hk : ∀ i, k i < 256) (num : Int) (hnum : -9223372036854775808 ≤ num ∧ num ≤ 9223372036854775807) (s : Nat → Nat) (hs : ∀ i, s i < 256) (w : World) (hS : Salts w) :
    Calls Tryz.prog 28 #[.agg (ar 32 k), .int .i64 num, .agg (ar 64 s)] w fun e w' => e = .returned (.agg (ar 32 (ndT k num s))) ∧ Below w.heap.size w w' := by
  rw [ndT_eq]
  exact TgP.node_any k hk num hnum s hs w hS
def hasT (k : Nat → Nat) (num : Int) (want : Nat → Nat) (s : Nat → Nat) : Bool := eqA 32 (ndT k num s) want
def nodR (b : Bs) (a c i : Int) (key want : Nat → Nat) : (Nat → Nat) × List Nat × Int × Bs := match rch b.ms.length a c 3 i with
  | some (f, j, p) => nodeR (hasT key i want) p b [] (rnd b.ms.length f j) 10
  | none => (fun _ => 0, [], 2, b)
structure T3 (b10 b11 b12 : Nat) (w0 : World) (s0 s1 : Nat → Nat) (v0 v1 : Value) (e0 e1 : Int) (d : Nat → Bool) (w' : World) : Prop where
  s : Blk w' b10 37 (ar 64 (if d 2 then s1 else s0))
  v : Blk w' b11 64 #[if d 3 then v1 else v0]
  e : Blk w' b12 52 #[.int .i64 (if d 4 then e1 else e0)]
  t : Turn (fun q => q = b10 ∨ q = b11 ∨ q = b12) w0 w'
section
variable {b10 b11 b12 : Nat} {w0 w' : World} {s0 s1 : Nat → Nat} {v0 v1 : Value} {e0 e1 : Int} {d : Nat → Bool}
theorem T3.start (h1 : Blk w0 b10 37 (ar 64 s0)) (h2 : Blk w0 b11 64 #[v0]) (h3 : Blk w0 b12 52 #[.int .i64 e0]) : T3 b10 b11 b12 w0 s0 s1 v0 v1 e0 e1 (fun _ => false) w0.drew :=
  ⟨h1.drew, h2.drew, h3.drew, Turn.drew _⟩
theorem T3.irr (h : T3 b10 b11 b12 w0 s0 s1 v0 v1 e0 e1 d w') {d' : Nat → Bool} (h2 : d 2 = d' 2) (h3 : d 3 = d' 3) (h4 : d 4 = d' 4) : T3 b10 b11 b12 w0 s0 s1 v0 v1 e0 e1 d' w' :=
  ⟨h2 ▸ h.s, h3 ▸ h.v, h4 ▸ h.e, h.t⟩
theorem T3.putS (h : T3 b10 b11 b12 w0 s0 s1 v0 v1 e0 e1 d w') (n1 : b10 ≠ b11) (n2 : b10 ≠ b12) : T3 b10 b11 b12 w0 s0 s1 v0 v1 e0 e1 (upB d 2) (w'.setRow b10 (ar 64 s1)) where
  s := by rw [show upB d 2 2 = true from rfl, if_pos rfl]; exact h.s.setRow_same _
  v := by rw [show upB d 2 3 = d 3 from rfl]; exact h.v.setRow_other n1 _
  e := by rw [show upB d 2 4 = d 4 from rfl]; exact h.e.setRow_other n2 _
  t := h.t.trans (Turn.setRow (S := fun q => q = b10 ∨ q = b11 ∨ q = b12) _ _ _ (.inl rfl)) fun q e => .inl e
theorem T3.putV (h : T3 b10 b11 b12 w0 s0 s1 v0 v1 e0 e1 d w') (n1 : b10 ≠ b11) (n2 : b11 ≠ b12) : T3 b10 b11 b12 w0 s0 s1 v0 v1 e0 e1 (upB d 3) (w'.setCell ⟨b11, 0, none⟩ v1) where
  s := by rw [show upB d 3 2 = d 2 from rfl]; exact h.s.setCell_other (p := ⟨b11, 0, none⟩) n1.symm _
  v := by rw [show upB d 3 3 = true from rfl, if_pos rfl]; exact h.v.setCell_same 0 _
  e := by rw [show upB d 3 4 = d 4 from rfl]; exact h.e.setCell_other (p := ⟨b11, 0, none⟩) n2 _
  t := h.t.trans (Turn.setCell (S := fun q => q = b10 ∨ q = b11 ∨ q = b12) _ ⟨b11, 0, none⟩ _ (.inr (.inl rfl))) fun q e => .inl e
theorem T3.putE (h : T3 b10 b11 b12 w0 s0 s1 v0 v1 e0 e1 d w') (n1 : b10 ≠ b12) (n2 : b11 ≠ b12) : T3 b10 b11 b12 w0 s0 s1 v0 v1 e0 e1 (upB d 4) (w'.setCell ⟨b12, 0, none⟩ (.int .i64 e1)) where
  s := by rw [show upB d 4 2 = d 2 from rfl]; exact h.s.setCell_other (p := ⟨b12, 0, none⟩) n1.symm _
  v := by rw [show upB d 4 3 = d 3 from rfl]; exact h.v.setCell_other (p := ⟨b12, 0, none⟩) n2.symm _
  e := by rw [show upB d 4 4 = true from rfl, if_pos rfl]; exact h.e.setCell_same 0 _
  t := h.t.trans (Turn.setCell (S := fun q => q = b10 ∨ q = b11 ∨ q = b12) _ ⟨b12, 0, none⟩ _ (.inr (.inr rfl))) fun q e => .inl e
end
section
variable {P : Program} {ops : Array Oper} {st : Nat → Bool} {D : (Nat → Bool) → World → Prop} {Qk : Act → Prop} {rest : List Oper} {a : Act} {dst : Option Tmp} {ty : TypeId} {pos : String} {after : Array Edge} {gd : Option (Nat × Bool)} {k n : Nat} {T : TypeId}
theorem mbldZ (hk : st k = false) (hb : Tryz.prog.built T [] = some (ar n fun _ => 0)) (hwt : Region.wanted ⟨dst, .build T #[], ty, pos, after, gd⟩ (yielded ops a.tmps) = true) (h : wpM Tryz.prog ops st D Qk (k + 1) rest (a.put dst (.agg (ar n fun _ => 0)))) :
    wpM Tryz.prog ops st D Qk k (⟨dst, .build T #[], ty, pos, after, gd⟩ :: rest) a :=
  wpM_val hk hwt (fun d w hw => gives_value (w' := w) (by
    have hr : (Instr.build T #[]).run Tryz.prog w = .ok (.agg (ar n fun _ => 0)) w := run_build w _ _ _ hb
    simp only [execOp, Sem.run_bind, List.map_toArray, List.map_nil, hr, Result.andThen_ok, Sem.run_pure]) hw) h
end
theorem results_cell3m {fn : Func} {p q r : Tmp} (h : fn.results = #[.cell p 37, .cell q 64, .cell r 52]) (tmps : Array Value) (w : World) (B C D : Nat) (x : Nat → Nat) (v : Value) (E : Int) (hv : ∃ A m c, v = .slice A m c) (hp : tmps.getD p undef = .pointer (some ⟨B, 0, none⟩)) (hq : tmps.getD q undef = .pointer (some ⟨C, 0, none⟩)) (hr : tmps.getD r undef = .pointer (some ⟨D, 0, none⟩))
    {t : TypeId} (ha : Blk w B t (ar 64 x)) (hb : w.cell? ⟨C, 0, none⟩ = some v) (hc : w.cell? ⟨D, 0, none⟩ = some (.int .i64 E)) :
    (results fn tmps).run Tryz.prog w = .ok (.tuple #[.agg (ar 64 x), v, .int .i64 E]) w := by
  obtain ⟨A, m, c, rfl⟩ := hv
  have hp' : tmps[p]?.getD undef = .pointer (some ⟨B, 0, none⟩) := by simpa using hp
  have hq' : tmps[q]?.getD undef = .pointer (some ⟨C, 0, none⟩) := by simpa using hq
  have hr' : tmps[r]?.getD undef = .pointer (some ⟨D, 0, none⟩) := by simpa using hr
  have hv : (loadVar 64 ⟨C, 0, none⟩).run Tryz.prog w = .ok (.slice A m c) w := by
    simp [loadVar, go_sem, hb]
  have hu : (loadVar 52 ⟨D, 0, none⟩).run Tryz.prog w = .ok (.int .i64 E) w := by
    simp [loadVar, go_sem, hc]
  simp [results, h, hp', hq', hr', asAddr, run_ar_var tSe ha, hv, hu]
def st3 (j : Nat) : Bool := decide (j = 2) || decide (j = 3) || decide (j = 4)
theorem st3_lt : ∀ j, st3 j = true → j < 5 := fun j h => by unfold st3 at h; simp at h; omega
end MiM
end Go.Proofs.YtklmjdhhnnanoaaGreatDoor
set_option maxRecDepth 100000
namespace Go.Proofs.YtklmjdhhnnanoaaGreatDoor
namespace MiM
open BuM MbM
structure Rest (b : Bs) (N : Nat) : Prop where
  st : b.steps = []
  off : b.off = false
  n : ∀ st ∈ b.ms, st.n = (N : Int)
theorem Rest.ahead {b : Bs} {N : Nat} (h : Rest b N) : BuM.ahead b = b := BuP.ahead_none fun s hs => by rw [h.st] at hs; cases hs
theorem Rest.may {b : Bs} {N m : Nat} (h : Rest b N) (hm : m < b.ms.length) : BuM.may b (m : Int) = 0 := by
  unfold BuM.may BuM.mem
  rw [h.off, if_neg Bool.false_ne_true, decide_eq_true (show (0 : Int) ≤ (m : Int) ∧ (m : Int) < b.ms.length by omega), if_pos rfl]
theorem at_nat {l : List St} {m : Nat} {st : St} (h : l[m]? = some st) : BuM.at' l (m : Int) = st := by
  unfold BuM.at'
  rw [Int.toNat_natCast, List.getD_eq_getElem?_getD, h]; rfl
section
variable {b : Bs} {N p m : Nat} {st : St} {x : Nat → Nat} {T : (Nat → Nat) → Bool}
theorem Rest.rde (h : Rest b N) (hm : b.ms[m]? = some st) : rde p b m = ⟨1, m, p, rdS st p, rdE st p⟩ := by
  unfold MiM.rde rdB
  rw [h.ahead, h.may (List.getElem?_eq_some_iff.1 hm).1, if_pos rfl, at_nat hm]
theorem Rest.rdt (h : Rest b N) : rdt p b m = { b with log := b.log ++ [MiM.rde p b m] } := by
  unfold MiM.rdt BuM.rdT MiM.rde BuM.put
  rw [h.ahead]
theorem Rest.rdt' (h : Rest b N) : Rest (MiM.rdt p b m) N := by rw [h.rdt]; exact ⟨h.st, h.off, h.n⟩
theorem Rest.pe (h : Rest b N) (hm : b.ms[m]? = some st) : pe p x b m = rdE st p := by
  unfold MiM.pe wrB
  show (if BuM.may (BuM.ahead b) m = 0 then _ else _) = _
  rw [h.ahead, h.may (List.getElem?_eq_some_iff.1 hm).1, if_pos rfl, at_nat hm]
theorem Rest.pt (h : Rest b N) (hm : b.ms[m]? = some st) : pt p x b m = { b with ms := b.ms.set m (MbM.wrT st p x), log := b.log ++ [⟨2, m, p, x, rdE st p⟩] } := by
  unfold MiM.pt BuM.wrT BuM.put BuM.wrM wrB BuM.upd
  rw [h.ahead, h.may (List.getElem?_eq_some_iff.1 hm).1, if_pos rfl, if_pos rfl, at_nat hm, Int.toNat_natCast]
theorem wrT_n (st : St) (i : Int) (x : Nat → Nat) : (MbM.wrT st i x).n = st.n ∧ (MbM.wrT st i x).fails = st.fails := by
  unfold MbM.wrT MbM.write
  split
  · split <;> exact ⟨rfl, rfl⟩
  · exact ⟨rfl, rfl⟩
theorem Rest.pt' (h : Rest b N) (hm : b.ms[m]? = some st) : Rest (MiM.pt p x b m) N := by
  rw [h.pt hm]
  refine ⟨h.st, h.off, fun s hs => ?_⟩
  rcases List.mem_or_eq_of_mem_set hs with e | e
  · exact h.n s e
  · rw [e, (wrT_n st p x).1]; exact h.n st (List.mem_of_getElem? hm)
theorem rdE_ok (hn : st.n = (N : Int)) (hf : st.fails = false) (hp : p < N) : rdE st p = 0 := by
  unfold rdE St.may
  rw [decide_eq_true (show (0 : Int) ≤ (p : Int) ∧ (p : Int) < st.n by omega), if_pos rfl, hf, if_neg Bool.false_ne_true]
theorem rdS_ok (hn : st.n = (N : Int)) (hf : st.fails = false) (hp : p < N) : rdS st p = MbM.seen st p := by
  unfold rdS St.may
  rw [decide_eq_true (show (0 : Int) ≤ (p : Int) ∧ (p : Int) < st.n by omega), if_pos rfl, hf, if_neg Bool.false_ne_true]
theorem rdE_13 (st : St) (i : Int) : rdE st i ≠ 13 := by
  unfold rdE
  split
  · split <;> omega
  · omega
theorem took_all (hp : p < N) : ∀ (l : List Nat) (b : Bs), Rest b N → (∀ s ∈ b.ms, s.fails = false) → (∀ y ∈ l, y < b.ms.length) → took (MiM.pe p x) (MiM.pt p x) b l = (some l, run (MiM.pt p x) b l)
  | [], _, _, _, _ => rfl
  | y :: l, b, h, hf, hl => by
    obtain ⟨st, hst⟩ : ∃ st, b.ms[y]? = some st := ⟨_, List.getElem?_eq_getElem (hl y (List.mem_cons_self ..))⟩
    have hmem := List.mem_of_getElem? hst
    have he : MiM.pe p x b y = 0 := by rw [h.pe hst]; exact rdE_ok (h.n st hmem) (hf st hmem) hp
    have hr := took_all hp l (MiM.pt p x b y) (h.pt' hst) (fun s hs => by
      rw [h.pt hst] at hs
      rcases List.mem_or_eq_of_mem_set hs with e | e
      · exact hf s e
      · rw [e, (wrT_n st p x).2]; exact hf st hmem) (fun z hz => by
      rw [pt_len]; exact hl z (List.mem_cons_of_mem _ hz))
    show (if MiM.pe p x b y = 13 then (none, MiM.pt p x b y) else ((took (MiM.pe p x) (MiM.pt p x) (MiM.pt p x b y) l).1.map fun z => if MiM.pe p x b y = 0 then y :: z else z, (took (MiM.pe p x) (MiM.pt p x) (MiM.pt p x b y) l).2)) = _
    rw [if_neg (by omega), hr, he]
    rfl
structure Put1 (b0 b : Bs) (N p : Nat) (x : Nat → Nat) (l : List Nat) : Prop where
  rest : Rest b N
  len : b.ms.length = b0.ms.length
  fine : ∀ s ∈ b.ms, s.fails = false
  held : ∀ m st, m ∈ l → b.ms[m]? = some st → MbM.seen st p = x
  none : ∀ m, m ∉ l → b.ms[m]? = b0.ms[m]?
  log : b.log.length = b0.log.length + l.length
theorem seen_write (st : St) (i : Int) (x : Nat → Nat) : MbM.seen (MbM.write st i x) i = x := by
  unfold MbM.seen MbM.write
  rw [app_snoc]
  unfold MbM.upd
  rw [if_pos rfl]
theorem wrT_ok (hn : st.n = (N : Int)) (hf : st.fails = false) (hp : p < N) : MbM.wrT st p x = MbM.write st p x := by
  unfold MbM.wrT St.may
  rw [decide_eq_true (show (0 : Int) ≤ (p : Int) ∧ (p : Int) < st.n by omega), if_pos rfl, hf, if_neg Bool.false_ne_true]
theorem put_all (hp : p < N) : ∀ (l l0 : List Nat) (b0 b : Bs), Put1 b0 b N p x l0 → (∀ y ∈ l, y < b0.ms.length) → Put1 b0 (run (MiM.pt p x) b l) N p x (l0 ++ l)
  | [], l0, b0, b, h, _ => by rw [List.append_nil]; exact h
  | y :: l, l0, b0, b, h, hl => by
    obtain ⟨st, hst⟩ : ∃ st, b.ms[y]? = some st := ⟨_, List.getElem?_eq_getElem (by rw [h.len]; exact hl y (List.mem_cons_self ..))⟩
    have hmem := List.mem_of_getElem? hst
    have hyl := (List.getElem?_eq_some_iff.1 hst).1
    have e : l0 ++ y :: l = (l0 ++ [y]) ++ l := by simp
    rw [e]
    refine put_all hp l (l0 ++ [y]) b0 (MiM.pt p x b y) ?_ (fun z hz => hl z (List.mem_cons_of_mem _ hz))
    have hpt := h.rest.pt (p := p) (x := x) hst
    refine ⟨h.rest.pt' hst, by rw [pt_len]; exact h.len, fun s hs => ?_, fun m s hm hs => ?_, fun m hm => ?_, ?_⟩
    · rw [hpt] at hs
      rcases List.mem_or_eq_of_mem_set hs with e | e
      · exact h.fine s e
      · rw [e, (wrT_n st p x).2]; exact h.fine st hmem
    · rw [hpt] at hs
      have hs' : (b.ms.set y (MbM.wrT st p x))[m]? = some s := hs
      by_cases hmy : m = y
      · subst hmy
        rw [List.getElem?_set_self hyl] at hs'
        cases hs'
        rw [wrT_ok (h.rest.n st hmem) (h.fine st hmem) hp]
        exact seen_write _ _ _
      · rw [List.getElem?_set_ne (Ne.symm hmy)] at hs'
        refine h.held m s ?_ hs'
        rcases List.mem_append.1 hm with e | e
        · exact e
        · exact absurd (List.mem_singleton.1 e) hmy
    · rw [hpt]
      show (b.ms.set y (MbM.wrT st p x))[m]? = _
      have hmy : m ≠ y := fun e => hm (by rw [e]; exact List.mem_append.2 (.inr (List.mem_singleton.2 rfl)))
      rw [List.getElem?_set_ne (Ne.symm hmy)]
      exact h.none m fun e => hm (List.mem_append.2 (.inl e))
    · rw [hpt]
      show (b.log ++ [_]).length = _
      rw [List.length_append, h.log, List.length_append, List.length_singleton, List.length_singleton]
      omega
theorem put_one (b : Bs) (h : Rest b N) (hf : ∀ s ∈ b.ms, s.fails = false) : Put1 b b N p x [] :=
  ⟨h, rfl, hf, fun m s hm => (by cases hm), fun _ _ => rfl, rfl⟩
theorem node_some : ∀ (l : List Nat) (b : Bs) (pre : List Nat) (y : Int), Rest b N → (∀ z ∈ l, z < b.ms.length) → (∃ m st, m ∈ l ∧ b.ms[m]? = some st ∧ rdE st p = 0 ∧ T (rdS st p) = true) →
    (nodeR T p b pre l y).2.2.1 = 0 ∧ (nodeR T p b pre l y).2.1.length + 1 ≤ pre.length + l.length ∧ T (nodeR T p b pre l y).1 = true
  | [], _, _, _, _, _, ⟨m, _, hm, _⟩ => by cases hm
  | z :: l, b, pre, y, h, hl, ⟨m, st, hm, hst, h0, hT⟩ => by
    obtain ⟨sz, hsz⟩ : ∃ st, b.ms[z]? = some st := ⟨_, List.getElem?_eq_getElem (hl z (List.mem_cons_self ..))⟩
    have hr := h.rde (p := p) hsz
    have e13 : (MiM.rde p b z).e ≠ 13 := by rw [hr]; exact rdE_13 _ _
    show (if (MiM.rde p b z).e = 13 then _ else if hit T p b z = true then _ else nodeR T p (MiM.rdt p b z) (pre ++ [z]) l _).2.2.1 = 0 ∧ (if (MiM.rde p b z).e = 13 then _ else if hit T p b z = true then _ else nodeR T p (MiM.rdt p b z) (pre ++ [z]) l _).2.1.length + 1 ≤ pre.length + (l.length + 1) ∧ T (if (MiM.rde p b z).e = 13 then _ else if hit T p b z = true then _ else nodeR T p (MiM.rdt p b z) (pre ++ [z]) l _).1 = true
    rw [if_neg e13]
    by_cases hh : hit T p b z = true
    · rw [if_pos hh]
      refine ⟨rfl, by show pre.length + 1 ≤ _; omega, ?_⟩
      unfold hit at hh
      rw [Bool.and_eq_true] at hh
      exact hh.2
    · rw [if_neg hh]
      have hmz : m ≠ z := fun e => by
        subst e
        rw [hst] at hsz
        cases hsz
        apply hh
        unfold hit
        rw [hr]
        simp [h0, hT]
      have hml : m ∈ l := (List.mem_cons.1 hm).resolve_left hmz
      have hms : (MiM.rdt p b z).ms = b.ms := by rw [h.rdt]
      obtain ⟨i1, i2, i3⟩ := node_some l (MiM.rdt p b z) (pre ++ [z]) (if (MiM.rde p b z).e = 0 then 11 else y) h.rdt' (by rw [hms]; exact fun w hw => hl w (List.mem_cons_of_mem _ hw)) ⟨m, st, hml, by rw [hms]; exact hst, h0, hT⟩
      refine ⟨i1, ?_, i3⟩
      rw [List.length_append, List.length_singleton] at i2
      omega
def cnt (pre : List Nat) (l : List Nat) (R : (Nat → Nat) × List Nat × Int × Bs) : Nat := if R.2.2.1 = 0 then R.2.1.length + 1 - pre.length else l.length
end
end MiM
end Go.Proofs.YtklmjdhhnnanoaaGreatDoor
set_option maxRecDepth 100000
namespace Go.Proofs.YtklmjdhhnnanoaaGreatDoor
open Go.ChangeShapes Go.WideShapes Go.ChangeAt Go.RowKit Go.Shelf
attribute [local go_sem] Gives GivesE
attribute [local go_sem] Oper.semAt_some
namespace MiM
open GeM StM RgM BuP BuM MbP
theorem rde_lt {repB : RepB} {W : World} {g k : Nat} {F : Fq} {b : Bs} (H : Pp repB W g F k b) (p m : Nat) : ∀ j, (rde p b m).s j < 256 := fun j => by
  unfold rde rdB
  split
  · exact rdS_lt (at_ok (hands_ok H.ok.2 H.ok.1) _) _ j
  · exact Nat.zero_lt_succ _
structure RnB (w : World) (z : Nat) (g : Nat) (a c i : Int) (key want : Nat → Nat) (w1 : World) : Prop where
  b : Blk w1 z 30 #[.pointer (some ⟨g, 0, none⟩)]
  g : Blk w1 (z + 1) tyG #[.int .i64 a, .int .i64 c]
  n : Blk w1 (z + 2) 3 #[.int .i64 i]
  k : Blk w1 (z + 3) 41 (ar 32 key)
  t : Blk w1 (z + 4) 81 (ar 32 want)
  s : Blk w1 (z + 5) 37 (ar 64 fun _ => 0)
  v : Blk w1 (z + 6) 64 #[.slice none 0 0]
  e : Blk w1 (z + 7) 52 #[.int .i64 0]
  bel : Below w.heap.size w w1
  low : w.heap.size ≤ z
theorem RnB.on {w : World} {z g : Nat} {a c i : Int} {key want : Nat → Nat} {w1 w2 : World} (h : RnB w z g a c i key want w1) (hb : Below w1.heap.size w1 w2) : RnB w z g a c i key want w2 :=
  ⟨h.b.below hb h.b.lt, h.g.below hb h.g.lt, h.n.below hb h.n.lt, h.k.below hb h.k.lt, h.t.below hb h.t.lt, h.s.below hb h.s.lt, h.v.below hb h.v.lt, h.e.below hb h.e.lt, h.bel.trans (hb.mono h.bel.size), h.low⟩
theorem RnB.mk' (w : World) (g : Nat) (a c i : Int) (key want : Nat → Nat) : RnB w w.heap.size g a c i key want ((((((((w.alloc (.cells #[.pointer (some ⟨g, 0, none⟩)] 30)).alloc (.cells #[.int .i64 a, .int .i64 c] tyG)).alloc (.cells #[.int .i64 i] 3)).alloc (.cells (ar 32 key) 41)).alloc (.cells (ar 32 want) 81)).alloc (.cells (ar 64 fun _ => 0) 37)).alloc (.cells #[.slice none 0 0] 64)).alloc (.cells #[.int .i64 0] 52)) :=
  ⟨(((((((Blk.new _ _ _).alloc _).alloc _).alloc _).alloc _).alloc _).alloc _).alloc _, ((((((Blk.top rfl (by simp)).alloc _).alloc _).alloc _).alloc _).alloc _).alloc _, (((((Blk.top rfl (by simp)).alloc _).alloc _).alloc _).alloc _).alloc _, ((((Blk.top rfl (by simp)).alloc _).alloc _).alloc _).alloc _, (((Blk.top rfl (by simp)).alloc _).alloc _).alloc _, ((Blk.top rfl (by simp)).alloc _).alloc _, (Blk.top rfl (by simp)).alloc _, Blk.top rfl (by simp),
    ((((((((Below.refl _ _).alloc (Nat.le_refl _) _).alloc (by simp) _).alloc (by simp; omega) _).alloc (by simp; omega) _).alloc (by simp; omega) _).alloc (by simp; omega) _).alloc (by simp; omega) _).alloc (by simp; omega) _, Nat.le_refl _⟩
def Tn (F : Fq) (b10 b11 b12 b14 B k : Nat) : Prop := mutP F k ∨ k = b10 ∨ k = b11 ∨ k = b12 ∨ k = b14 ∨ B + 2 ≤ k
def rnI (repB : RepB) (T : (Nat → Nat) → Bool) (p B g : Nat) (F : Fq) (k s : Nat) (b : Bs) (b10 b11 b12 b14 : Nat) (pre : List Nat) (W : World) : Prop :=
  ∃ v sv ev, BuAt repB (B + 2) g F (k + pre.length * (s + 2)) (run (rdt p) b pre) (fun q => v.ownBlock = some q) W ∧ non T p b pre ∧ Blk W b10 37 (ar 64 sv) ∧ Blk W b11 64 #[v] ∧ Blk W b12 52 #[.int .i64 ev] ∧ Blk W b14 52 #[.int .i64 (why p b pre 10)] ∧ OwnI W (B + 2) v pre
def rnX (repB : RepB) (T : (Nat → Nat) → Bool) (p B g : Nat) (F : Fq) (k s : Nat) (b : Bs) (b10 b11 b12 : Nat) (pre : List Nat) (W : World) : Prop :=
  ∃ v sv ev p0 x, pre = p0 ++ [x] ∧ non T p b p0 ∧ BuAt repB (B + 2) g F (k + pre.length * (s + 2)) (run (rdt p) b pre) (fun q => v.ownBlock = some q) W ∧ Blk W b10 37 (ar 64 sv) ∧ Blk W b11 64 #[v] ∧ Blk W b12 52 #[.int .i64 ev] ∧
    (((rde p (run (rdt p) b p0) x).e = 13 ∧ sv = (fun _ => 0) ∧ v = .slice none 0 0 ∧ ev = 13) ∨ ((rde p (run (rdt p) b p0) x).e ≠ 13 ∧ hit T p (run (rdt p) b p0) x = true ∧ sv = (rde p (run (rdt p) b p0) x).s ∧ ev = 0 ∧ OwnI W (B + 2) v p0))
set_option maxHeartbeats 6000000 in
set_option maxRecDepth 100000 in
theorem readnode_any {repB : RepB} (hC : BusC repB) {w : World} {g k : Nat} {F : Fq} {b : Bs} (H : Pp repB w g F k b) (hn : 0 < b.ms.length) (hk : k + 64 * (b.steps.length + 2) ≤ 200000) (hS : Salts w) (hlow : ∀ q, mutP F q → tabs < q)
    (a c i : Int) (hi : -9223372036854775808 ≤ i ∧ i ≤ 9223372036854775807) (key want : Nat → Nat) (hkey : ∀ j, key j < 256) :
    Calls Tryz.prog 29 #[MbP.at' g, gv a c, .int .i64 i, .agg (ar 32 key), .agg (ar 32 want)] w fun r w' => ∃ v, r = .returned (.tuple #[.agg (ar 64 (nodR b a c i key want).1), v, .int .i64 (nodR b a c i key want).2.2.1]) ∧ OwnI w' w.heap.size v (nodR b a c i key want).2.1 ∧ outQ repB w g F (k + 64 * (b.steps.length + 2)) (nodR b a c i key want).2.2.2 w' := by
  obtain ⟨R, hR⟩ : ∃ R, R = nodR b a c i key want := ⟨_, rfl⟩
  rw [← hR]
  have HR := hid hR
  have HP := hid H
  have HM := hid (members_of hC H)
  have hlt := H.sz.1
  have HK := hid hk
  have HKEY := hid hkey
  have SA := hid hS
  have LOW := hid hlow
  have lP := hid H.mlt
  have lI := hid H.ilt
  have K := hid (RnB.mk' w g a c i key want)
  obtain ⟨n, hnn⟩ : ∃ n, n = b.ms.length := ⟨_, rfl⟩
  have NN := hid hnn
  rw [← hnn] at hlt HM hn
  obtain ⟨s, hs⟩ : ∃ s, s = b.steps.length := ⟨_, rfl⟩
  rw [← hs] at HK ⊢
  have SE := hid hs
  have HI := hid hi
  clear H hR hnn hk hkey hS hlow hs hi
  unfold gv MbP.at'
  unfold MbP.at' at HM
  refine (callsIn_wide (n := 7)).1 ?_
  refine callsIn_of_wp_marks Tryz.func29 rfl trivial ?_ rfl
  simp only [Tryz.ntmps29, List.size_toArray, List.length_cons, List.length_nil, Nat.reduceAdd, Nat.reduceSub, Array.replicate_succ, Array.replicate_zero, List.push_toArray, List.append_toArray, List.nil_append, List.cons_append]
  gi_upto_region 0 with fail
  refine wpIn_wide.2 ?_
  go_wp2_with (with_reducible apply alA tSe)
  obtain ⟨z, hz⟩ : ∃ z, z = w.heap.size := ⟨_, rfl⟩
  rw [show w.heap.size + 1 + 1 + 1 + 1 + 1 + 1 + 1 = z + 7 by omega, show w.heap.size + 1 + 1 + 1 + 1 + 1 + 1 = z + 6 by omega, show w.heap.size + 1 + 1 + 1 + 1 + 1 = z + 5 by omega, show w.heap.size + 1 + 1 + 1 + 1 = z + 4 by omega, show w.heap.size + 1 + 1 + 1 = z + 3 by omega, show w.heap.size + 1 + 1 = z + 2 by omega, show w.heap.size + 1 = z + 1 by omega, ← hz]
  rw [← hz] at K
  have ZE := hid hz
  generalize World.alloc (World.alloc (World.alloc (World.alloc _ _) _) _) _ = w1 at K ⊢
  clear hz
  have c5 := K.out.b.cell 0
  have c7 := K.out.n.cell 0
  have cz := K.out.e.cell 0
  have fz := K.out.e.frozen 0
  gi_upto_region 1 with fail
  refine wpIn_wide.2 ?_
  go_wp2_with (first | ((with_reducible apply ldR (cs := #[Value.int .i64 a, .int .i64 c]) (tGe _ _)); rfl; exact K.out.g.whole) | ((with_reducible apply wblV (built_w0 3 i)); (simp only [List.map_toArray, List.map_cons, List.map_nil]; rfl)))
  refine (reach_gen (.pointer (some ⟨g, 0, none⟩)) n a c 3 i (fun _ => 0) HI.out w1 hlt fun w' hb => HM.out w' (K.out.bel.trans (hb.mono K.out.bel.size))).mono ?_
  rintro e w2 ⟨rfl, h2⟩
  have K2 := hid (K.out.on h2)
  clear h2 K HM c5 c7 cz fz
  have cz := K2.out.e.cell 0
  have fz := K2.out.e.frozen 0
  cases hh : rch n a c 3 i with
  | none =>
    have HR2 := hid (show R = (fun _ => 0, [], 2, b) by rw [HR.out]; unfold nodR; rw [← NN.out, hh])
    have hE : rchE n a c 3 i = 2 := by unfold rchE; rw [if_neg (by omega), hh]
    have hH : rchH n a c 3 i = hoL 0 0 0 := by unfold rchH; rw [hh]
    rw [hE, hH]
    clear hE hH hh HR cz fz
    go_wp2_with ((with_reducible apply stR (tHo 0 0 0)); rfl; rfl; exact Blk.new _ _ _; rfl; exact ho_one _ _ _; (generalize hW : World.setRow (World.alloc w2 _) _ _ = w3; have b3 : Below w2.heap.size w2 w3 := (by rw [← hW]; exact below_setRow ((Below.refl _ _).alloc (Nat.le_refl _) _) (Nat.le_refl _) _); have K3 := hid (K2.out.on b3); have H3 := hid (show Blk w3 w2.heap.size tyH (hoL 0 0 0) from (by rw [← hW]; exact (Blk.new w2 _ _).setRow_same _)); have cz3 := K3.out.e.cell 0; have fz3 := K3.out.e.frozen 0; clear hW b3))
    have cz4 := (K3.out.e.setCell_same 0 (.int .i64 2)).cell 0
    have K4s := hid (K3.out.s.setCell_other (p := ⟨z + 7, 0, none⟩) (by show z + 7 ≠ z + 5; omega) (.int .i64 2))
    have K4v := hid (K3.out.v.setCell_other (p := ⟨z + 7, 0, none⟩) (by show z + 7 ≠ z + 6; omega) (.int .i64 2))
    have K4e := hid (K3.out.e.setCell_same 0 (.int .i64 2))
    have B4 := hid (K3.out.bel.trans (((Turn.setCell (S := fun q => q = z + 7) w3 ⟨z + 7, 0, none⟩ (.int .i64 2) rfl).below (B := w.heap.size) K3.out.bel.size fun q e => by have := ZE.out; omega)))
    generalize World.setCell w3 _ _ = w4 at cz4 K4s K4v K4e B4 ⊢
    clear cz3 fz3 K3 H3 K2
    gi_upto_region 3 with fail
    refine wpIn_wide.2 ?_
    refine wp_region_set (D := T3 (z + 5) (z + 6) (z + 7) w4 (fun _ => 0) (fun _ => 0) (.slice none 0 0) (.slice none 0 0) 2 2) st3 5 st3_lt (by kernel_rfl) (by kernel_rfl) (by kernel_rfl)
      (fun d d' w' hd h => h.irr (hd 2 rfl) (hd 3 rfl) (hd 4 rfl)) (T3.start K4s.out K4v.out K4e.out) ?_
    simp only [List.take_succ_cons, List.take_zero, List.drop_succ_cons, List.drop_zero]
    apply mbldZ rfl zSeB
    · rfl
    simp only [Act.put, sqA, sqB, sqC]
    apply wpM_val
    · rfl
    · rfl
    · intro dd w' hw'
      have hcell := (by have := hw'.e.cell 0; simpa using this : w'.cell? ⟨z + 7, 0, none⟩ = some (.int .i64 2))
      go_simp
      first | exact rfl | exact ⟨rfl, hw'⟩
    simp only [Act.put, sqA, sqB, sqC]
    refine TgP.mst tSe rfl rfl rfl rfl (fun d w hd hw => ⟨_, hw.s⟩) (fun d w hd hw => hw.putS (by omega) (by omega)) ?_
    simp only [Act.put, sqA, sqB, sqC]
    apply wpM_put
    · rfl
    · rfl
    · intro d w' hd hw'
      have hcl := hw'.v.cell 0
      have hfz := hw'.v.frozen 0
      go_simp
      exact ⟨rfl, hw'.putV (by omega) (by omega)⟩
    simp only [Act.put, sqA, sqB, sqC]
    apply wpM_put
    · rfl
    · rfl
    · intro d w' hd hw'
      have hcl := hw'.e.cell 0
      have hfz := hw'.e.frozen 0
      go_simp
      exact ⟨rfl, hw'.putE (by omega) (by omega)⟩
    simp only [Act.put, sqA, sqB, sqC]
    intro w5 h5
    have H5 := hid h5
    clear h5
    go_wp2_with fail
    gi_wp2
    refine ⟨_, results_cell3m rfl _ _ (z + 5) (z + 6) (z + 7) (fun _ => 0) (.slice none 0 0) 2 ⟨_, _, _, rfl⟩ rfl rfl rfl H5.out.s (H5.out.v.cell 0) (H5.out.e.cell 0), .slice none 0 0, by rw [HR2.out], by rw [HR2.out]; exact ownI_nil _ _, ?_⟩
    rw [HR2.out]
    have B5 := B4.out.trans (H5.out.t.below B4.out.size fun q e => by have := ZE.out; omega)
    exact ⟨F, (HP.out.mono (Nat.le_add_right _ _)).below hC B5, rfl, rfl, fun _ e => .inl e, fun _ e => .inr (.inl e), Turn.of_new B5⟩
  | some y =>
    obtain ⟨f, j, p⟩ := y
    obtain ⟨hna, hom⟩ := rch_some hh
    obtain ⟨m, q, hma, _, _, hm4, hm64, hj1, hjm, hf, _⟩ := hom_some hom
    have hmn : m = n := by omega
    subst hmn
    have HRR := hid (show R = nodeR (hasT key i want) p b [] (rnd m f j) 10 by rw [HR.out]; unfold nodR; rw [← NN.out, hh])
    have hE : rchE m a c 3 i = 0 := by unfold rchE; rw [if_neg (by omega), hh]
    have hH : rchH m a c 3 i = hoL f j p := by unfold rchH; rw [hh]
    rw [hE, hH]
    clear hE hH hh hom HR cz fz
    subst hna
    go_wp2_with ((with_reducible apply stR (tHo f j p)); rfl; rfl; exact Blk.new _ _ _; rfl; exact ho_one _ _ _; (generalize hW : World.setRow (World.alloc w2 _) _ _ = w3; have b3 : Below w2.heap.size w2 w3 := (by rw [← hW]; exact below_setRow ((Below.refl _ _).alloc (Nat.le_refl _) _) (Nat.le_refl _) _); have K3 := hid (K2.out.on b3); have H3 := hid (show Blk w3 w2.heap.size tyH (hoL f j p) from (by rw [← hW]; exact (Blk.new w2 _ _).setRow_same _)); have cz3 := K3.out.e.cell 0; have fz3 := K3.out.e.frozen 0; clear hW b3))
    obtain ⟨b13, h13⟩ : ∃ x, x = w2.heap.size := ⟨_, rfl⟩
    rw [← h13] at H3 ⊢
    have K4s := hid (K3.out.s.setCell_other (p := ⟨z + 7, 0, none⟩) (by show z + 7 ≠ z + 5; omega) (.int .i64 0))
    have K4v := hid (K3.out.v.setCell_other (p := ⟨z + 7, 0, none⟩) (by show z + 7 ≠ z + 6; omega) (.int .i64 0))
    have K4e := hid (K3.out.e.setCell_same 0 (.int .i64 0))
    have n13 : z + 7 < b13 := by rw [h13]; exact K2.out.e.lt
    have K4b := hid (K3.out.b.setCell_other (p := ⟨z + 7, 0, none⟩) (by show z + 7 ≠ z; omega) (.int .i64 0))
    have K4g := hid (K3.out.g.setCell_other (p := ⟨z + 7, 0, none⟩) (by show z + 7 ≠ z + 1; omega) (.int .i64 0))
    have K4n := hid (K3.out.n.setCell_other (p := ⟨z + 7, 0, none⟩) (by show z + 7 ≠ z + 2; omega) (.int .i64 0))
    have K4k := hid (K3.out.k.setCell_other (p := ⟨z + 7, 0, none⟩) (by show z + 7 ≠ z + 3; omega) (.int .i64 0))
    have K4t := hid (K3.out.t.setCell_other (p := ⟨z + 7, 0, none⟩) (by show z + 7 ≠ z + 4; omega) (.int .i64 0))
    have K4h := hid (H3.out.setCell_other (p := ⟨z + 7, 0, none⟩) (by show z + 7 ≠ b13; omega) (.int .i64 0))
    have B4 := hid (K3.out.bel.trans (((Turn.setCell (S := fun q => q = z + 7) w3 ⟨z + 7, 0, none⟩ (.int .i64 0) rfl).below (B := w.heap.size) K3.out.bel.size fun q e => by have := ZE.out; omega)))
    have cz4 := K4e.out.cell 0
    generalize World.setCell w3 _ _ = w4 at cz4 K4s K4v K4e K4b K4g K4n K4k K4t K4h B4 ⊢
    clear cz3 fz3 K3 H3 K2 h13
    gi_upto_region 5 with fail
    obtain ⟨b14, h14⟩ : ∃ x, x = w4.heap.size := ⟨_, rfl⟩
    have n14 : b13 < b14 := by rw [h14]; exact K4h.out.lt
    rw [← h14]
    generalize hw5 : World.alloc w4 _ = w5
    have b45 : Below w4.heap.size w4 w5 := by rw [← hw5]; exact (Below.refl _ _).alloc (Nat.le_refl _) _
    have K14 := hid (show Blk w5 b14 52 #[.int .i64 10] by rw [← hw5, h14]; exact Blk.new _ _ _)
    have r0 : w5.cell? ⟨z + 1, 0, none⟩ = some (.int .i64 (m : Nat)) := (K4g.out.below b45 K4g.out.lt).cell 0
    have K5h := hid (K4h.out.below b45 K4h.out.lt)
    have B45 := hid b45
    clear hw5 h14 b45 cz4
    refine wpIn_wide.2 ?_
    go_wp2_with ((with_reducible apply ldR (cs := hoL f j p) (tHo f j p)); rfl; exact K5h.out.whole)
    refine (around_any f j p m w5).mono ?_
    rintro e w6 ⟨rfl, h6, k1, k2, hz6⟩
    obtain ⟨bH, hbH⟩ : ∃ x, x = w5.heap.size := ⟨_, rfl⟩
    obtain ⟨bM, hbM⟩ : ∃ x, x = w5.heap.size + 1 := ⟨_, rfl⟩
    rw [← hbH] at k1
    rw [← hbM] at k2
    rw [← hbM, ← hbH]
    have nH : b14 < bH := by rw [hbH]; exact K14.out.lt
    have nM : bH < bM := by omega
    have nM2 : bM ≤ bH + 1 := by omega
    have sz6 : bM < w6.heap.size := by omega
    have b46 := B45.out.trans (h6.mono B45.out.size)
    have K6s := hid (K4s.out.below b46 K4s.out.lt)
    have K6v := hid (K4v.out.below b46 K4v.out.lt)
    have K6e := hid (K4e.out.below b46 K4e.out.lt)
    have K6b := hid (K4b.out.below b46 K4b.out.lt)
    have K6n := hid (K4n.out.below b46 K4n.out.lt)
    have K6k := hid (K4k.out.below b46 K4k.out.lt)
    have K6t := hid (K4t.out.below b46 K4t.out.lt)
    have K6h := hid (K4h.out.below b46 K4h.out.lt)
    have K6y := hid (K14.out.below h6 K14.out.lt)
    have B6 := hid (B4.out.trans (b46.mono B4.out.size))
    have P6 := hid (HP.out.below hC B6.out)
    have Q1 := hid k1
    have Q2 := hid (k2.cell 0)
    clear h6 k1 k2 hz6 hbH hbM b46 B45 K5h K14 r0 K4s K4v K4e K4b K4g K4n K4k K4t K4h B4
    have LP := hid (show ∀ q, mutP F q → q < z from fun q e => by have := lP.out q e; have := ZE.out; omega)
    have LI := hid (show ∀ q, rdP F q → q < z from fun q e => by have := lI.out q e; have := ZE.out; omega)
    have ZW := hid (show w.heap.size = z from ZE.out.symm)
    clear lP lI
    have HB := hid (show ∀ W, Turn (fun k => Tn F (z + 5) (z + 6) (z + 7) b14 w6.heap.size k ∨ Bk w6.heap.size k) w6 W → Turn (fun q => mutP F q ∨ w.heap.size ≤ q) w W from fun W h => (Turn.of_new B6.out).trans h fun k e => by
      have := ZW.out
      unfold Tn Bk at e
      rcases e with (e | e | e | e | e | e) | e | e
      · exact .inl (.inl e)
      all_goals exact .inl (.inr (by omega)))
    have NB := hid (show ∀ q, z ≤ q → q < w6.heap.size → ¬ (mutP F q ∨ w6.heap.size + 2 ≤ q) from fun q h1 h2 e => by
      rcases e with e | e
      · have := LP.out q e; omega
      · omega)
    have NT := hid (show ∀ q, (z ≤ q ∧ q < z + 5 ∨ q = b13 ∨ bH ≤ q ∧ q < w6.heap.size) → ¬ (Tn F (z + 5) (z + 6) (z + 7) b14 w6.heap.size q ∨ Bk w6.heap.size q) from fun q h1 e => by
      unfold Tn Bk at e
      rcases e with (e | e | e | e | e | e) | e | e
      · have := LP.out q e; omega
      all_goals omega)
    go_wp2_with fail
    gi_wp2
    refine wpIn_range (α := Nat) rfl (by omega) (gf := 84) (lb := #[.pointer (some ⟨bH, 0, none⟩), .pointer (some ⟨bM, 0, none⟩)]) rfl trivial (enters_of Tryz.func84 (by kernel_rfl) rfl)
      (encs := fun x : Nat => #[Value.int .i64 x]) (T := Tn F (z + 5) (z + 6) (z + 7) b14 w6.heap.size) (S := fun ys => ys = rnd m f j) (Sp := fun pre => pre = (rnd m f j).take pre.length ∧ pre.length ≤ j) (N := j)
      (around1_in f j p m bH bM w6.heap.size (by omega) hm64 (by omega) hf (Tn F (z + 5) (z + 6) (z + 7) b14 w6.heap.size) w6 Q1.out Q2.out (fun e => NT.out bH (by omega) (.inl e)) (fun e => NT.out bM (by omega) (.inl e)) (by omega) (by omega))
      (fun k e => by
        unfold Tn at e
        unfold Bk
        rcases e with e | e | e | e | e | e
        · have := LP.out k e; omega
        all_goals omega) (fun _ => rfl)
      (fun pre W => rnI repB (hasT key i want) p w6.heap.size g F k s b (z + 5) (z + 6) (z + 7) b14 pre W ∧ Turn (fun k => Tn F (z + 5) (z + 6) (z + 7) b14 w6.heap.size k ∨ Bk w6.heap.size k) w6 W)
      (fun c pre W => (c = .ret ∧ rnX repB (hasT key i want) p w6.heap.size g F k s b (z + 5) (z + 6) (z + 7) pre W) ∧ Turn (fun k => Tn F (z + 5) (z + 6) (z + 7) b14 w6.heap.size k ∨ Bk w6.heap.size k) w6 W)
      (fun s' X Y ⟨⟨v, sv, ev, h1, h2, h3, h4, h5, h6, h7⟩, h8⟩ ht => ⟨⟨v, sv, ev, h1.turn hC ht fun q e e2 => by
          unfold Bk at e2
          rcases e with e | e | e
          · have := LP.out q e; omega
          · have := LI.out q e; omega
          · omega, h2, h3.turn ht (fun e => by unfold Bk at e; omega), h4.turn ht (fun e => by unfold Bk at e; omega), h5.turn ht (fun e => by unfold Bk at e; omega), h6.turn ht (fun e => by unfold Bk at e; omega), row_from h7 ht (Nat.le_refl _)⟩, h8.trans ht fun k e => .inl (.inr e)⟩)
      (fun c s' X Y ⟨⟨h0, v, sv, ev, p0, x, h1, h2, h3, h4, h5, h6, h7⟩, h8⟩ ht => ⟨⟨h0, v, sv, ev, p0, x, h1, h2, h3.turn hC ht fun q e e2 => by
          unfold Bk at e2
          rcases e with e | e | e
          · have := LP.out q e; omega
          · have := LI.out q e; omega
          · omega, h4.turn ht (fun e => by unfold Bk at e; omega), h5.turn ht (fun e => by unfold Bk at e; omega), h6.turn ht (fun e => by unfold Bk at e; omega), h7.imp (fun ⟨a1, a2, a3, a4⟩ => ⟨a1, a2, a3, a4⟩) fun ⟨a1, a2, a3, a4, a5⟩ => ⟨a1, a2, a3, a4, row_from a5 ht (Nat.le_refl _)⟩⟩, h8.trans ht fun k e => .inl (.inr e)⟩)
      ⟨⟨.slice none 0 0, fun _ => 0, 0, by rw [List.length_nil, Nat.zero_mul, Nat.add_zero]; exact BuAt.new P6.out (fun q e => by cases e), trivial, K6s.out, K6v.out, K6e.out, K6y.out, ownI_nil _ _⟩, Turn.refl _ _⟩
      (fun x => { tmps := #[.pointer (some ⟨g, 0, none⟩), .agg #[.int .i64 (m : Nat), .int .i64 (q : Nat)], .int .i64 i, .agg (ar 32 key), .agg (ar 32 want), .pointer (some ⟨z, 0, none⟩), .pointer (some ⟨z + 1, 0, none⟩), .pointer (some ⟨z + 2, 0, none⟩), .pointer (some ⟨z + 3, 0, none⟩), .pointer (some ⟨z + 4, 0, none⟩), .pointer (some ⟨z + 5, 0, none⟩), .pointer (some ⟨z + 6, 0, none⟩), .pointer (some ⟨z + 7, 0, none⟩), .pointer (some ⟨b13, 0, none⟩), .pointer (some ⟨b14, 0, none⟩), .int .i64 x, .tuple #[.agg (hoL f j p), .int .i64 0], .pointer (some ⟨g, 0, none⟩), .agg #[.int .i64 (m : Nat), .int .i64 (q : Nat)], .int .i64 i, .agg (wrL 3 i fun _ => 0).toArray, .tuple #[.agg (hoL f j p), .int .i64 0], .agg (hoL f j p), .int .i64 0, .int .i64 0, .bool false, undef, undef, .agg (hoL f j p), .pointer (some ⟨z + 1, 0, none⟩), .int .i64 (m : Nat), .func (.func 84) #[] #[.pointer (some ⟨bH, 0, none⟩), .pointer (some ⟨bM, 0, none⟩)], .int .i64 x, undef, undef, undef, undef, undef, undef, undef, undef, undef, undef, undef, undef, undef, undef, undef, undef, undef, undef, undef, undef, undef, undef, undef, undef, undef, undef, undef, undef, undef, undef, undef, undef, undef, undef, undef], defers := [] }) ?assign ?body ?done ?stop
    case assign =>
      intro l x W K hK
      gi_wp2
      exact hK
    case body =>
      rintro l pre x W ⟨⟨v, sv, ev, h1, h2, h3, h4, h5, h6, h7⟩, hT2⟩ hlt hW2
      have hst := run_steps (t := rdt p) (fun _ _ => rfl) pre b
      have hkb : k + (pre.length + 1) * (s + 2) ≤ 200000 := Nat.le_trans (Nat.add_le_add_left (Nat.mul_le_mul_right _ (show pre.length + 1 ≤ 64 by omega)) k) HK.out
      have hks : k + pre.length * (s + 2) + (s + 2) = k + (pre.length + 1) * (s + 2) := by rw [Nat.add_mul]; omega
      obtain ⟨F', p1, p2, p3, p4, p5, p6⟩ := h1
      have SXL := hid (rde_lt p1 p x)
      have HCALL := hid (hC.read p1 (by rw [hst, ← SE.out]; omega) (x : Nat) (p : Nat))
      rw [hst, ← SE.out, show k + pre.length * (s + 2) + s + 2 = k + (pre.length + 1) * (s + 2) by omega] at HCALL
      unfold MbP.at' at HCALL
      have VL := hid (fun q (e : v.ownBlock = some q) => h7.lt q e)
      have OUT := hid (fun W' (ho : outQ repB W g F' (k + (pre.length + 1) * (s + 2)) (rdt p (run (rdt p) b pre) x) W') => BuAt.out p2 p3 p4 p5 p6 ho hW2 fun q e => (VL.out q e).2)
      have E0 := hid (run_snoc (t := rdt p) (b := b) pre x)
      have E1 := hid (non_snoc (T := hasT key i want) (p := p) pre b x)
      have E2 := hid (why_snoc (p := p) pre b x 10)
      have N2 := hid h2
      have PL := hid (show (pre ++ [x]).length = pre.length + 1 by rw [List.length_append]; rfl)
      have HITE := hid (show hit (hasT key i want) p (run (rdt p) b pre) x = (decide ((rde p (run (rdt p) b pre) x).e = 0) && hasT key i want (rde p (run (rdt p) b pre) x).s) from rfl)
      obtain ⟨sx, hsx⟩ : ∃ sx, sx = (rde p (run (rdt p) b pre) x).s := ⟨_, rfl⟩
      obtain ⟨ex, hex⟩ : ∃ ex, ex = (rde p (run (rdt p) b pre) x).e := ⟨_, rfl⟩
      have SX := hid hsx
      have EX := hid hex
      change Hid (Calls Tryz.prog _ _ W fun e w' => e = .returned (.tuple #[.agg (ar 64 (rde p (run (rdt p) b pre) x).s), .int .i64 (rde p (run (rdt p) b pre) x).e]) ∧ _) at HCALL
      rw [← hsx, ← hex] at HCALL HITE
      rw [← hsx] at SXL
      rw [← hex] at E1 E2
      have gB := (K6b.out.turn hT2 (NT.out z (by omega))).cell 0
      have gA := ho_2 (K6h.out.turn hT2 (NT.out b13 (by omega)))
      have GN := hid (K6n.out.turn hT2 (NT.out (z + 2) (by omega)))
      have GK := hid (K6k.out.turn hT2 (NT.out (z + 3) (by omega)))
      have GT := hid (K6t.out.turn hT2 (NT.out (z + 4) (by omega)))
      have H3 := hid h3
      have H4 := hid h4
      have H5 := hid h5
      have H6 := hid h6
      have H7 := hid h7
      have T2 := hid hT2
      have PRL := hid hlt
      clear h2 h3 h4 h5 h6 h7 hT2 p1 p2 p3 p4 p5 p6 hst hkb hks hsx hex
      gi_upto_region 7 with fail
      refine wpi_region_lex (by kernel_rfl) (by rintro ⟨_, _, h⟩; exact h) ?_
      go_wp2_with fail
      refine HCALL.out.mono ?_
      rintro r W1 ⟨rfl, ho⟩
      have O1 := hid (OUT.out W1 ho).1
      have T1 := hid (OUT.out W1 ho).2
      have hW1 : w6.heap.size + 2 ≤ W1.heap.size := Nat.le_trans hW2 T1.out.size
      have NB1 := hid (show ∀ q, z ≤ q → q < w6.heap.size → ¬ ((mutP F q ∨ w6.heap.size + 2 ≤ q) ∧ ¬ v.ownBlock = some q) from fun q h1 h2 e => NB.out q h1 h2 e.1)
      have G3 := hid (H3.out.turn T1.out (NB1.out (z + 5) (by omega) (by omega)))
      have G4 := hid (H4.out.turn T1.out (NB1.out (z + 6) (by omega) (by omega)))
      have G5 := hid (H5.out.turn T1.out (NB1.out (z + 7) (by omega) (by omega)))
      have G6 := hid (H6.out.turn T1.out (NB1.out b14 (by omega) (by omega)))
      have N1 := hid (GN.out.turn T1.out (NB1.out (z + 2) (by omega) (by omega)))
      have Y1 := hid (GK.out.turn T1.out (NB1.out (z + 3) (by omega) (by omega)))
      have W1t := hid (GT.out.turn T1.out (NB1.out (z + 4) (by omega) (by omega)))
      have R1 := hid (show OwnI W1 (w6.heap.size + 2) v pre from row_turn H7.out T1.out fun q e1 e2 => e2.2 e1)
      have T1' := hid (T1.out.mono (T := Tn F (z + 5) (z + 6) (z + 7) b14 w6.heap.size) fun q e => by
        unfold Tn
        rcases e.1 with e | e
        · exact .inl e
        · exact .inr (.inr (.inr (.inr (.inr e)))))
      clear ho HCALL OUT H3 H4 H5 H6 H7 GN GK GT gB gA
      go_wp2_with ((with_reducible apply stA tSe); rfl; rfl; exact G3.out; (generalize hW : World.setRow W1 _ _ = W2; have t2 : Turn (fun q => q = z + 5) W1 W2 := (by rw [← hW]; exact Turn.setRow _ _ _ rfl); have G32 := hid (show Blk W2 (z + 5) 37 (ar 64 sx) from (by rw [← hW]; exact G3.out.setRow_same _)); have G52 := hid (G5.out.turn t2 (by omega)); have cE := G52.out.cell 0; have fE := G52.out.frozen 0; have TT2 := hid t2; clear hW t2))
      have TS3 := hid (Turn.setCell (S := fun q => q = z + 7) W2 ⟨z + 7, 0, none⟩ (.int .i64 ex) rfl)
      have T13 := hid ((TT2.out.mono (T := fun q => q = z + 5 ∨ q = z + 7) fun q e => .inl e).trans (TS3.out.mono (T := fun q => q = z + 5 ∨ q = z + 7) fun q e => .inr e) fun q e => .inl e)
      have G33 := hid (G32.out.setCell_other (p := ⟨z + 7, 0, none⟩) (by show z + 7 ≠ z + 5; omega) (.int .i64 ex))
      have G53 := hid (G52.out.setCell_same 0 (.int .i64 ex))
      generalize World.setCell W2 _ _ = W3 at TS3 T13 G33 G53 ⊢
      have G43 := hid (G4.out.turn T13.out (by omega))
      have G63 := hid (G6.out.turn T13.out (by omega))
      have N3 := hid (N1.out.turn T13.out (by omega))
      have Y3 := hid (Y1.out.turn T13.out (by omega))
      have W3t := hid (W1t.out.turn T13.out (by omega))
      have R3 := hid (show OwnI W3 (w6.heap.size + 2) v pre from row_turn R1.out T13.out fun q e e2 => by have := (VL.out q e).1; omega)
      have O3 := hid (O1.out.turn hC T13.out fun q e e2 => by
        rcases e with e | e | e
        · have := LP.out q e; omega
        · have := LI.out q e; omega
        · omega)
      have T3' := hid (T1'.out.trans (T13.out.mono (T := Tn F (z + 5) (z + 6) (z + 7) b14 w6.heap.size) fun q e => by unfold Tn; omega) fun q e => .inl e)
      have hW3 := hid (Nat.le_trans hW1 T13.out.size)
      have cE3 := G53.out.cell 0
      clear cE fE TT2 TS3 T13 G32 G52 G3 G4 G5 G6 N1 Y1 W1t R1 O1 T1 T1'
      by_cases h13 : ex = 13
      · subst h13
        gi_upto_region 9 with fail
        refine wpi_region_set (D := T3 (z + 5) (z + 6) (z + 7) W3 sx (fun _ => 0) v (.slice none 0 0) 13 13) st3 5 st3_lt (by kernel_rfl) (by kernel_rfl) (by rintro ⟨_, _, h⟩; exact h) (by kernel_rfl) (by kernel_rfl)
          (fun d d' w' hd h => h.irr (hd 2 rfl) (hd 3 rfl) (hd 4 rfl)) (T3.start G33.out G43.out G53.out) ?_
        simp only [List.take_succ_cons, List.take_zero, List.drop_succ_cons, List.drop_zero]
        apply mbldZ rfl zSeB
        · rfl
        simp only [Act.put, sqA, sqB, sqC]
        apply wpM_val
        · rfl
        · rfl
        · intro dd w' hw'
          have hcell := (by have := hw'.e.cell 0; simpa using this : w'.cell? ⟨z + 7, 0, none⟩ = some (.int .i64 13))
          go_simp
          first | exact rfl | exact ⟨rfl, hw'⟩
        simp only [Act.put, sqA, sqB, sqC]
        refine TgP.mst tSe rfl rfl rfl rfl (fun d w hd hw => ⟨_, hw.s⟩) (fun d w hd hw => hw.putS (by omega) (by omega)) ?_
        simp only [Act.put, sqA, sqB, sqC]
        apply wpM_put
        · rfl
        · rfl
        · intro d w' hd hw'
          have hcl := hw'.v.cell 0
          have hfz := hw'.v.frozen 0
          go_simp
          exact ⟨rfl, hw'.putV (by omega) (by omega)⟩
        simp only [Act.put, sqA, sqB, sqC]
        apply wpM_put
        · rfl
        · rfl
        · intro d w' hd hw'
          have hcl := hw'.e.cell 0
          have hfz := hw'.e.frozen 0
          go_simp
          exact ⟨rfl, hw'.putE (by omega) (by omega)⟩
        simp only [Act.put, sqA, sqB, sqC]
        intro w5 h5
        have H5 := hid h5
        clear h5
        go_wp2_with fail
        gi_wp2
        have TN := hid (H5.out.t.mono (T := Tn F (z + 5) (z + 6) (z + 7) b14 w6.heap.size) fun q e => by unfold Tn; omega)
        have TT := hid (T3'.out.trans TN.out fun q e => .inl e)
        refine ⟨TT.out, ⟨rfl, .slice none 0 0, fun _ => 0, 13, pre, x, rfl, N2.out, ?_, H5.out.s, H5.out.v, H5.out.e, .inl ⟨EX.out.symm, rfl, rfl, rfl⟩⟩, T2.out.trans TT.out fun q e => .inl (.inl e)⟩
        rw [PL.out, E0.out]
        refine BuAt.now hC (O3.out.turn hC H5.out.t fun q e e2 => ?_) fun q e => by cases e
        rcases e with e | e | e
        · have := LP.out q e; omega
        · have := LI.out q e; omega
        · omega
      have z13 : (ex == 13) = false := by simp [h13]
      have SAW := hid (show Salts W3 from SA.out.below (B := tabs + 1) ((HB.out W3 (T2.out.trans (T3'.out.mono fun q e => .inl e) fun q e => .inl e)).below (by have := SA.out.1; omega) fun q e => by
        rcases e with e | e
        · have := LOW.out q e; omega
        · have := SA.out.1; omega) (Nat.lt_succ_self _))
      have e3l := G53.out.lt
      have n3l := N3.out.lt
      have y3l := Y3.out.lt
      have w3l := W3t.out.lt
      have s3l := G33.out.lt
      by_cases hz : ex = 0
      · subst hz
        obtain ⟨hb, hhb⟩ : ∃ hb, hb = hasT key i want sx := ⟨_, rfl⟩
        have HHB := hid (show eqA 32 (ndT key i sx) want = hb from hhb.symm)
        have HIT2 := hid (show hit (hasT key i want) p (run (rdt p) b pre) x = hb from by rw [HITE.out, hhb, decide_eq_true rfl, Bool.true_and])
        clear hhb
        gi_upto_region 10 with fail
        refine wpi_region_tail (C := fun w' => Below W3.heap.size W3 w') 10 (by kernel_rfl) (by kernel_rfl) (by rintro ⟨_, _, h⟩; exact h) (by kernel_rfl) (by kernel_rfl) (Below.refl _ _).drew ?_
        simp only [List.take_succ_cons, List.take_zero, List.drop_succ_cons, List.drop_zero]
        apply wpK_val
        · rfl
        · intro w' hw'
          have hcell := (hw'.cell (p := ⟨z + 7, 0, none⟩) e3l).trans (G53.out.cell 0)
          go_simp
          first | exact rfl | exact ⟨rfl, hw'⟩
        simp only [Act.put, sqA, sqB, sqC]
        apply wpK_val
        · rfl
        · intro w' hw'
          go_simp
          first | exact rfl | exact ⟨rfl, hw'⟩
        simp only [Act.put, sqA, sqB, sqC]
        apply wpK_val
        · rfl
        · intro w' hw'
          go_simp
          first | exact rfl | exact ⟨rfl, hw'⟩
        simp only [Act.put, sqA, sqB, sqC]
        apply kldA tKy
        · rfl
        · rfl
        · exact fun w' hw' => (Y3.out.below hw' y3l).head
        simp only [Act.put, sqA, sqB, sqC]
        apply wpK_val
        · rfl
        · intro w' hw'
          have hcell := (hw'.cell (p := ⟨z + 2, 0, none⟩) n3l).trans (N3.out.cell 0)
          go_simp
          first | exact rfl | exact ⟨rfl, hw'⟩
        simp only [Act.put, sqA, sqB, sqC]
        apply kldA tSe
        · rfl
        · rfl
        · exact fun w' hw' => (G33.out.below hw' s3l).head
        simp only [Act.put, sqA, sqB, sqC]
        apply wpK_val
        · rfl
        · intro w' hw'
          go_simp
          exact (node_ndT key HKEY.out i HI.out sx SXL.out w' (SAW.out.on hw')).mono fun e w5 h => ⟨h.1, hw'.trans (h.2.mono hw'.size)⟩
        simp only [Act.put, sqA, sqB, sqC]
        apply kldA tTg
        · rfl
        · rfl
        · exact fun w' hw' => (W3t.out.below hw' w3l).head
        simp only [Act.put, sqA, sqB, sqC]
        apply keqU hb TgP.uT TgP.eqgT
        · rfl
        · rfl
        · rfl
        · exact HHB.out
        simp only [Act.put, sqA, sqB, sqC]
        apply wpK_val
        · rfl
        · intro w' hw'
          go_simp
          first | exact rfl | exact ⟨rfl, hw'⟩
        simp only [Act.put, sqA, sqB, sqC]
        refine wpK_nil fun w8 h8 => ?_
        have H8 := hid h8
        have A3 := hid (G33.out.below h8 s3l)
        have A4 := hid (G43.out.below h8 G43.out.lt)
        have A5 := hid (G53.out.below h8 e3l)
        have A6 := hid (G63.out.below h8 G63.out.lt)
        have A7 := hid (R3.out.below h8 (Nat.le_refl _))
        have AO := hid (O3.out.turn hC (Turn.of_new (S := fun _ => False) h8) fun _ _ e => e.elim)
        have AS := hid (Nat.le_trans hW3.out h8.size)
        have AT := hid (T3'.out.trans (Turn.of_new (S := fun _ => False) h8) fun _ e => e.elim)
        clear h8 G33 G43 G53 G63 N3 Y3 W3t R3 O3 T3' cE3 SAW e3l n3l y3l w3l s3l z13
        go_wp2_with fail
        cases hb with
        | true =>
          gi_upto_region 11 with fail
          obtain ⟨A9, c9, hv9⟩ := OwnI.len A7.out
          subst hv9
          refine wpi_region_set (D := T3 (z + 5) (z + 6) (z + 7) w8 sx sx (.slice A9 pre.length c9) (.slice A9 pre.length c9) 0 0) st3 5 st3_lt (by kernel_rfl) (by kernel_rfl) (by rintro ⟨_, _, h⟩; exact h) (by kernel_rfl) (by kernel_rfl)
            (fun d d' w' hd h => h.irr (hd 2 rfl) (hd 3 rfl) (hd 4 rfl)) (T3.start A3.out A4.out A5.out) ?_
          simp only [List.take_succ_cons, List.take_zero, List.drop_succ_cons, List.drop_zero]
          refine TgP.mld tSe rfl rfl rfl (f := sx) (fun d w hw => by have := hw.s.head; simpa using this) ?_
          simp only [Act.put, sqA, sqB, sqC]
          apply wpM_val
          · rfl
          · rfl
          · intro dd w' hw'
            have hcell := (by have := hw'.v.cell 0; simpa using this : w'.cell? ⟨z + 6, 0, none⟩ = some (.slice A9 pre.length c9))
            go_simp
            first | exact rfl | exact ⟨rfl, hw'⟩
          simp only [Act.put, sqA, sqB, sqC]
          refine TgP.mst tSe rfl rfl rfl rfl (fun d w hd hw => ⟨_, hw.s⟩) (fun d w hd hw => hw.putS (by omega) (by omega)) ?_
          simp only [Act.put, sqA, sqB, sqC]
          apply wpM_put
          · rfl
          · rfl
          · intro d w' hd hw'
            have hcl := hw'.v.cell 0
            have hfz := hw'.v.frozen 0
            go_simp
            exact ⟨rfl, hw'.putV (by omega) (by omega)⟩
          simp only [Act.put, sqA, sqB, sqC]
          apply wpM_put
          · rfl
          · rfl
          · intro d w' hd hw'
            have hcl := hw'.e.cell 0
            have hfz := hw'.e.frozen 0
            go_simp
            exact ⟨rfl, hw'.putE (by omega) (by omega)⟩
          simp only [Act.put, sqA, sqB, sqC]
          intro w5 h5
          have H5 := hid h5
          clear h5
          go_wp2_with fail
          gi_wp2
          have TN := hid (H5.out.t.mono (T := Tn F (z + 5) (z + 6) (z + 7) b14 w6.heap.size) fun q e => by unfold Tn; omega)
          have TT := hid (AT.out.trans TN.out fun q e => .inl e)
          have hs5 : Blk w5 (z + 5) 37 (ar 64 sx) := by have := H5.out.s; simpa using this
          have hv5 : Blk w5 (z + 6) 64 #[.slice A9 pre.length c9] := by have := H5.out.v; simpa using this
          have he5 : Blk w5 (z + 7) 52 #[.int .i64 0] := by have := H5.out.e; simpa using this
          refine ⟨TT.out, ⟨rfl, .slice A9 pre.length c9, sx, 0, pre, x, rfl, N2.out, ?_, hs5, hv5, he5, .inr ⟨by rw [← EX.out]; omega, HIT2.out, SX.out, rfl, ?_⟩⟩, T2.out.trans TT.out fun q e => .inl (.inl e)⟩
          · rw [PL.out, E0.out]
            refine AO.out.turn hC H5.out.t fun q e e2 => ?_
            rcases e with e | e | e
            · have := LP.out q e; omega
            · have := LI.out q e; omega
            · omega
          · exact row_turn A7.out H5.out.t fun q e e2 => by have := (VL.out q e).1; omega
        | false =>
          have cE8 := A5.out.cell 0
          have cY8 := A6.out.cell 0
          have fY8 := A6.out.frozen 0
          gi_upto_region 14 with fail
          have TY := hid (Turn.setCell (S := fun q => q = b14) w8 ⟨b14, 0, none⟩ (.int .i64 11) rfl)
          have B3 := hid (A3.out.turn TY.out (by omega))
          have B4 := hid (A4.out.turn TY.out (by omega))
          have B5 := hid (A5.out.turn TY.out (by omega))
          have B6' := hid (A6.out.setCell_same 0 (.int .i64 11))
          generalize World.setCell w8 _ _ = w9 at TY B3 B4 B5 B6' ⊢
          have B7 := hid (show OwnI w9 (w6.heap.size + 2) v pre from row_turn A7.out TY.out fun q e e2 => by have := (VL.out q e).1; omega)
          have BO := hid (AO.out.turn hC TY.out fun q e e2 => by
            rcases e with e | e | e
            · have := LP.out q e; omega
            · have := LI.out q e; omega
            · omega)
          have BS := hid (Nat.le_trans AS.out TY.out.size)
          have BT := hid (AT.out.trans (TY.out.mono (T := Tn F (z + 5) (z + 6) (z + 7) b14 w6.heap.size) fun q e => by unfold Tn; omega) fun q e => .inl e)
          clear A3 A4 A5 A6 A7 AO AS AT cE8 cY8 fY8
          have A3 := B3
          have A4 := B4
          have A5 := B5
          have A6 := B6'
          have A7 := B7
          have AO := BO
          have AS := BS
          have AT := BT
          refine wpi_region_lex (by kernel_rfl) (by rintro ⟨_, _, h⟩; exact h) ?_
          have BA := hid (show Below w9.heap.size w9 (w9.alloc (.cells (natL x).toArray 3)) from (Below.refl _ _).alloc (Nat.le_refl _) _)
          have hcv := A4.out.cell 0
          go_wp2_with (first
            | ((with_reducible apply wlit1 eltNat undNat (x := x)); omega; rfl; rfl)
            | (at_builtin; (with_reducible apply wappM (B := w6.heap.size + 2) (n := x)); rfl; rfl; exact OwnI.below A7.out BA.out (Nat.le_refl _); exact sli_lit1 eltNat x w9 trivial; (have := PRL.out; omega); (have := BA.out.size; have := AS.out; omega); intro v' w4 o4 g4 wh4; obtain ⟨A4', c4, hv4⟩ := OwnI.len o4; rw [List.length_append, List.length_singleton] at hv4; subst hv4; have T4 := hid ((Turn.of_new (S := fun q => v.ownBlock = some q) BA.out).trans (Turn.of_grown (S := fun q => v.ownBlock = some q) g4 fun q e => e) fun q e => .inl e); have G64 := hid (A4.out.turn T4.out fun e => by have := (VL.out _ e).1; omega); have hc6 := G64.out.cell 0; have hf6 := G64.out.frozen 0))
          have TS := hid (Turn.setCell (S := fun q => q = z + 6) w4 ⟨z + 6, 0, none⟩ (.slice A4' (pre.length + 1) c4) rfl)
          have VQ := hid (show ∀ q, (Value.slice A4' (pre.length + 1) c4).ownBlock = some q → w6.heap.size + 2 ≤ q from fun q e => (o4.lt q e).1)
          have TT := hid (AT.out.trans ((T4.out.mono (T := Tn F (z + 5) (z + 6) (z + 7) b14 w6.heap.size) fun q e => by have := (VL.out q e).1; unfold Tn; omega).trans (TS.out.mono (T := Tn F (z + 5) (z + 6) (z + 7) b14 w6.heap.size) fun q e => by unfold Tn; omega) fun q e => .inl e) fun q e => .inl e)
          refine ⟨TT.out, ⟨_, _, _, ?_, ?_, (A3.out.turn T4.out fun e => by have := (VL.out _ e).1; omega).setCell_other (p := ⟨z + 6, 0, none⟩) (by show z + 6 ≠ z + 5; omega) _, G64.out.setCell_same 0 _, (A5.out.turn T4.out fun e => by have := (VL.out _ e).1; omega).setCell_other (p := ⟨z + 6, 0, none⟩) (by show z + 6 ≠ z + 7; omega) _, ?_, ?_⟩, T2.out.trans TT.out fun q e => .inl (.inl e)⟩
          · rw [PL.out, E0.out]
            have a1 := BuAt.now hC AO.out (U := fun q => v.ownBlock = some q ∨ (Value.slice A4' (pre.length + 1) c4).ownBlock = some q) fun q e => by
              rcases e with e | e
              · exact .inl e
              · rcases wh4 with y | y
                · exact .inl (y ▸ e)
                · rw [y] at e
                  cases e
                  exact .inr BA.out.size
            have a2 := a1.turn hC T4.out fun q _ e => .inl e
            have a3 := a2.turn hC TS.out fun q e e2 => by
              rcases e with e | e | e
              · have := LP.out q e; omega
              · have := LI.out q e; omega
              · omega
            exact a3.now hC fun q e => .inl (.inr e)
          · exact E1.out.2 ⟨N2.out, by omega, HIT2.out⟩
          · rw [E2.out, if_pos trivial]
            exact (A6.out.turn T4.out fun e => by have := (VL.out _ e).1; omega).setCell_other (p := ⟨z + 6, 0, none⟩) (by show z + 6 ≠ b14; omega) _
          · exact row_turn o4 TS.out fun q e e2 => by have := VQ.out q e; omega
      · have z0 : (ex == 0) = false := by simp [hz]
        have z1 : decide (ex = 0) = false := decide_eq_false hz
        gi_upto_region 10 with fail
        refine wpi_region_tail (C := fun w' => Below W3.heap.size W3 w') 10 (by kernel_rfl) (by kernel_rfl) (by rintro ⟨_, _, h⟩; exact h) (by kernel_rfl) (by kernel_rfl) (Below.refl _ _).drew ?_
        simp only [List.take_succ_cons, List.take_zero, List.drop_succ_cons, List.drop_zero]
        apply wpK_val
        · rfl
        · intro w' hw'
          have hcell := (hw'.cell (p := ⟨z + 7, 0, none⟩) e3l).trans (G53.out.cell 0)
          go_simp
          first | exact rfl | exact ⟨rfl, hw'⟩
        simp only [Act.put, sqA, sqB, sqC]
        apply wpK_val
        · rfl
        · intro w' hw'
          have q0 : (ex == 0) = false := z0
          have q1 : decide (ex = 0) = false := z1
          go_simp
          first | exact rfl | exact ⟨rfl, hw'⟩
        simp only [Act.put, sqA, sqB, sqC]
        apply wpK_val
        · rfl
        · intro w' hw'
          go_simp
          first | exact rfl | exact ⟨rfl, hw'⟩
        simp only [Act.put, sqA, sqB, sqC]
        apply wpK_not
        · rfl
        simp only [Act.put, sqA, sqB, sqC]
        apply wpK_not
        · rfl
        simp only [Act.put, sqA, sqB, sqC]
        apply wpK_not
        · rfl
        simp only [Act.put, sqA, sqB, sqC]
        apply wpK_not
        · rfl
        simp only [Act.put, sqA, sqB, sqC]
        apply wpK_not
        · rfl
        simp only [Act.put, sqA, sqB, sqC]
        apply wpK_not
        · rfl
        simp only [Act.put, sqA, sqB, sqC]
        apply wpK_val
        · rfl
        · intro w' hw'
          go_simp
          first | exact rfl | exact ⟨rfl, hw'⟩
        simp only [Act.put, sqA, sqB, sqC]
        refine wpK_nil fun w8 h8 => ?_
        have H8 := hid h8
        have A3 := hid (G33.out.below h8 s3l)
        have A4 := hid (G43.out.below h8 G43.out.lt)
        have A5 := hid (G53.out.below h8 e3l)
        have A6 := hid (G63.out.below h8 G63.out.lt)
        have A7 := hid (R3.out.below h8 (Nat.le_refl _))
        have AO := hid (O3.out.turn hC (Turn.of_new (S := fun _ => False) h8) fun _ _ e => e.elim)
        have AS := hid (Nat.le_trans hW3.out h8.size)
        have AT := hid (T3'.out.trans (Turn.of_new (S := fun _ => False) h8) fun _ e => e.elim)
        clear h8 G33 G43 G53 G63 N3 Y3 W3t R3 O3 T3' cE3 SAW e3l n3l y3l w3l s3l z13
        have cE8 := A5.out.cell 0
        go_wp2_with fail
        gi_upto_region 14 with fail
        refine wpi_region_lex (by kernel_rfl) (by rintro ⟨_, _, h⟩; exact h) ?_
        have BA := hid (show Below w8.heap.size w8 (w8.alloc (.cells (natL x).toArray 3)) from (Below.refl _ _).alloc (Nat.le_refl _) _)
        have hcv := A4.out.cell 0
        go_wp2_with (first
          | ((with_reducible apply wlit1 eltNat undNat (x := x)); omega; rfl; rfl)
          | (at_builtin; (with_reducible apply wappM (B := w6.heap.size + 2) (n := x)); rfl; rfl; exact OwnI.below A7.out BA.out (Nat.le_refl _); exact sli_lit1 eltNat x w8 trivial; (have := PRL.out; omega); (have := BA.out.size; have := AS.out; omega); intro v' w4 o4 g4 wh4; obtain ⟨A4', c4, hv4⟩ := OwnI.len o4; rw [List.length_append, List.length_singleton] at hv4; subst hv4; have T4 := hid ((Turn.of_new (S := fun q => v.ownBlock = some q) BA.out).trans (Turn.of_grown (S := fun q => v.ownBlock = some q) g4 fun q e => e) fun q e => .inl e); have G64 := hid (A4.out.turn T4.out fun e => by have := (VL.out _ e).1; omega); have hc6 := G64.out.cell 0; have hf6 := G64.out.frozen 0))
        have TS := hid (Turn.setCell (S := fun q => q = z + 6) w4 ⟨z + 6, 0, none⟩ (.slice A4' (pre.length + 1) c4) rfl)
        have VQ := hid (show ∀ q, (Value.slice A4' (pre.length + 1) c4).ownBlock = some q → w6.heap.size + 2 ≤ q from fun q e => (o4.lt q e).1)
        have TT := hid (AT.out.trans ((T4.out.mono (T := Tn F (z + 5) (z + 6) (z + 7) b14 w6.heap.size) fun q e => by have := (VL.out q e).1; unfold Tn; omega).trans (TS.out.mono (T := Tn F (z + 5) (z + 6) (z + 7) b14 w6.heap.size) fun q e => by unfold Tn; omega) fun q e => .inl e) fun q e => .inl e)
        refine ⟨TT.out, ⟨_, _, _, ?_, ?_, (A3.out.turn T4.out fun e => by have := (VL.out _ e).1; omega).setCell_other (p := ⟨z + 6, 0, none⟩) (by show z + 6 ≠ z + 5; omega) _, G64.out.setCell_same 0 _, (A5.out.turn T4.out fun e => by have := (VL.out _ e).1; omega).setCell_other (p := ⟨z + 6, 0, none⟩) (by show z + 6 ≠ z + 7; omega) _, ?_, ?_⟩, T2.out.trans TT.out fun q e => .inl (.inl e)⟩
        · rw [PL.out, E0.out]
          have a1 := BuAt.now hC AO.out (U := fun q => v.ownBlock = some q ∨ (Value.slice A4' (pre.length + 1) c4).ownBlock = some q) fun q e => by
            rcases e with e | e
            · exact .inl e
            · rcases wh4 with y | y
              · exact .inl (y ▸ e)
              · rw [y] at e
                cases e
                exact .inr BA.out.size
          have a2 := a1.turn hC T4.out fun q _ e => .inl e
          have a3 := a2.turn hC TS.out fun q e e2 => by
            rcases e with e | e | e
            · have := LP.out q e; omega
            · have := LI.out q e; omega
            · omega
          exact a3.now hC fun q e => .inl (.inr e)
        · exact E1.out.2 ⟨N2.out, h13, by rw [HITE.out, decide_eq_false hz, Bool.false_and]⟩
        · rw [E2.out, if_neg hz]
          exact (A6.out.turn T4.out fun e => by have := (VL.out _ e).1; omega).setCell_other (p := ⟨z + 6, 0, none⟩) (by show z + 6 ≠ b14; omega) _
        · exact row_turn o4 TS.out fun q e e2 => by have := VQ.out q e; omega
    case done =>
      rintro D ys W rfl rfl ⟨⟨v, sv, ev, h1, h2, h3, h4, h5, h6, h7⟩, hT2⟩ hK
      obtain ⟨yv, hyv⟩ : ∃ yv, yv = why p b (rnd m f j) 10 := ⟨_, rfl⟩
      have ND := hid (nodeR_done (rnd m f j) b [] 10 h2)
      rw [← hyv] at h6 ND
      have O1 := hid h1
      have H3 := hid h3
      have H4 := hid h4
      have H5' := hid h5
      have H6 := hid h6
      have T2 := hid hT2
      have HKD := hid hK
      have hDl := (Array.getElem?_eq_some_iff.1 hK).1
      have y6l := h6.lt
      clear h1 h2 h3 h4 h5 h6 h7 hT2 hK hyv
      gi_upto_region 15 with fail
      refine wpIn_wide.2 ?_
      refine wp_region_set (D := T3 (z + 5) (z + 6) (z + 7) W sv (fun _ => 0) v (.slice none 0 0) ev yv) st3 5 st3_lt (by kernel_rfl) (by kernel_rfl) (by kernel_rfl)
        (fun d d' w' hd h => h.irr (hd 2 rfl) (hd 3 rfl) (hd 4 rfl)) (T3.start H3.out H4.out H5'.out) ?_
      simp only [List.take_succ_cons, List.take_zero, List.drop_succ_cons, List.drop_zero]
      apply mbldZ rfl zSeB
      · rfl
      simp only [Act.put, sqA, sqB, sqC]
      apply wpM_val
      · rfl
      · rfl
      · intro dd w' hw'
        have hcell := (hw'.t.cell (p := ⟨b14, 0, none⟩) (H6.out.cell 0) (by show ¬ (b14 = z + 5 ∨ b14 = z + 6 ∨ b14 = z + 7); omega) : w'.cell? ⟨b14, 0, none⟩ = some (.int .i64 yv))
        go_simp
        first | exact rfl | exact ⟨rfl, hw'⟩
      simp only [Act.put, sqA, sqB, sqC]
      refine TgP.mst tSe rfl rfl rfl rfl (fun d w hd hw => ⟨_, hw.s⟩) (fun d w hd hw => hw.putS (by omega) (by omega)) ?_
      simp only [Act.put, sqA, sqB, sqC]
      apply wpM_put
      · rfl
      · rfl
      · intro d w' hd hw'
        have hcl := hw'.v.cell 0
        have hfz := hw'.v.frozen 0
        go_simp
        exact ⟨rfl, hw'.putV (by omega) (by omega)⟩
      simp only [Act.put, sqA, sqB, sqC]
      apply wpM_put
      · rfl
      · rfl
      · intro d w' hd hw'
        have hcl := hw'.e.cell 0
        have hfz := hw'.e.frozen 0
        go_simp
        exact ⟨rfl, hw'.putE (by omega) (by omega)⟩
      simp only [Act.put, sqA, sqB, sqC]
      intro w5 h5
      have H5 := hid h5
      clear h5
      go_wp2_with fail
      gi_wp2
      have HKE : w5.heap[w6.heap.size]? = some (.deferred (some [])) := (H5.out.t.block w6.heap.size hDl (by omega)).trans HKD.out
      have TP := turn_putObj (T := fun k => k = w6.heap.size) w5 w6.heap.size (.deferred none) rfl
      have TWw := (T2.out.trans (H5.out.t.mono (T := fun k => Tn F (z + 5) (z + 6) (z + 7) b14 w6.heap.size k ∨ Bk w6.heap.size k) fun q e => by unfold Tn; omega) fun q e => .inl e).trans (TP.mono (T := fun k => Tn F (z + 5) (z + 6) (z + 7) b14 w6.heap.size k ∨ Bk w6.heap.size k) fun q e => by unfold Bk; omega) fun q e => .inl e
      have OF := (O1.out.turn hC H5.out.t fun q e e2 => by
        rcases e with e | e | e
        · have := LP.out q e; omega
        · have := LI.out q e; omega
        · omega).turn hC TP fun q e e2 => by
          rcases e with e | e | e
          · have := LP.out q e; omega
          · have := LI.out q e; omega
          · omega
      have hkk : k + (rnd m f j).length * (s + 2) ≤ k + 64 * (s + 2) := Nat.add_le_add_left (Nat.mul_le_mul_right _ (by rw [rnd_length]; omega)) k
      refine ⟨by simp, .inl ⟨_, _, rfl, run_takeDeferred HKE, ?_⟩⟩
      refine ⟨_, results_cell3m rfl _ _ (z + 5) (z + 6) (z + 7) (fun _ => 0) (.slice none 0 0) yv ⟨_, _, _, rfl⟩ rfl rfl rfl (H5.out.s.turn TP (by omega)) ((H5.out.v.turn TP (by omega)).cell 0) ((H5.out.e.turn TP (by omega)).cell 0), .slice none 0 0, by rw [HRR.out, ND.out], by rw [HRR.out, ND.out]; exact ownI_nil _ _, ?_⟩
      rw [HRR.out, ND.out]
      exact (OF.outQ (HB.out _ TWw) (fun q e => e) (by have := ZW.out; omega)).mono hkk
    case stop =>
      rintro D c pre W rfl ⟨hpre, hle⟩ ⟨⟨rfl, v, sv, ev, p0, x, hp0, hno, h3, h4, h5, h6, h7⟩, hT2⟩ hK
      have hcut : rnd m f j = p0 ++ x :: (rnd m f j).drop pre.length := by
        have := (List.take_append_drop pre.length (rnd m f j)).symm
        rw [← hpre, hp0, List.append_assoc] at this
        rw [hp0]
        exact this
      have O1 := hid h3
      have H4 := hid h4
      have H5 := hid h5
      have H6 := hid h6
      have T2 := hid hT2
      have HKD := hid hK
      have hkk : k + pre.length * (s + 2) ≤ k + 64 * (s + 2) := Nat.add_le_add_left (Nat.mul_le_mul_right _ (by omega)) k
      have TP := hid (turn_putObj (T := fun k => k = w6.heap.size) W w6.heap.size (.deferred none) rfl)
      have TWw := hid (T2.out.trans (TP.out.mono (T := fun k => Tn F (z + 5) (z + 6) (z + 7) b14 w6.heap.size k ∨ Bk w6.heap.size k) fun q e => by unfold Bk; omega) fun q e => .inl e)
      have OF := hid (O1.out.turn hC TP.out fun q e e2 => by
        rcases e with e | e | e
        · have := LP.out q e; omega
        · have := LI.out q e; omega
        · omega)
      have OQ := hid ((OF.out.outQ (HB.out _ TWw.out) (fun q e => e) (by have := ZW.out; omega)).mono hkk)
      clear h3 h4 h5 h6 hT2 hK hpre
      rcases h7 with ⟨a1, rfl, rfl, rfl⟩ | ⟨a1, a2, rfl, rfl, a5⟩
      · have hst := nodeR_off p0 b [] 10 x ((rnd m f j).drop pre.length) hno a1
        rw [← hcut, ← hp0] at hst
        have HST := hid hst
        clear hst hcut hno a1 hp0
        gi_wp2
        refine ⟨by simp, .inl ⟨_, _, rfl, run_takeDeferred HKD.out, ?_⟩⟩
        refine ⟨_, results_cell3m rfl _ _ (z + 5) (z + 6) (z + 7) (fun _ => 0) (.slice none 0 0) 13 ⟨_, _, _, rfl⟩ rfl rfl rfl (H4.out.turn TP.out (by omega)) ((H5.out.turn TP.out (by omega)).cell 0) ((H6.out.turn TP.out (by omega)).cell 0), .slice none 0 0, by rw [HRR.out, HST.out], by rw [HRR.out, HST.out]; exact ownI_nil _ _, ?_⟩
        rw [HRR.out, HST.out]
        exact OQ.out
      · have hst := nodeR_hit p0 b [] 10 x ((rnd m f j).drop pre.length) hno a1 a2
        rw [← hcut, ← hp0, List.nil_append] at hst
        have HST := hid hst
        obtain ⟨A9, c9, hv9⟩ := OwnI.len a5
        have R9 := hid (OwnI.down (row_turn a5 TP.out fun q e e2 => by have := (a5.lt q e).1; omega) (show w.heap.size ≤ w6.heap.size + 2 by have := ZW.out; omega))
        obtain ⟨sx, hsx⟩ : ∃ sx, sx = (rde p (run (rdt p) b p0) x).s := ⟨_, rfl⟩
        rw [← hsx] at HST H4
        subst hv9
        clear hst hcut hno a1 a2 a5 hp0 hsx
        gi_wp2
        refine ⟨by simp, .inl ⟨_, _, rfl, run_takeDeferred HKD.out, ?_⟩⟩
        refine ⟨_, results_cell3m rfl _ _ (z + 5) (z + 6) (z + 7) sx (.slice A9 p0.length c9) 0 ⟨_, _, _, rfl⟩ rfl rfl rfl (H4.out.turn TP.out (by omega)) ((H5.out.turn TP.out (by omega)).cell 0) ((H6.out.turn TP.out (by omega)).cell 0), .slice A9 p0.length c9, by rw [HRR.out, HST.out], by rw [HRR.out, HST.out]; exact R9.out, ?_⟩
        rw [HRR.out, HST.out]
        exact OQ.out
end MiM
end Go.Proofs.YtklmjdhhnnanoaaGreatDoor
set_option maxRecDepth 100000
namespace Go.Proofs.YtklmjdhhnnanoaaGreatDoor
open Go.ChangeShapes Go.WideShapes Go.ChangeAt Go.RowKit
attribute [local go_sem] Gives
namespace StM
section
variable {w : World}
end
end StM
end Go.Proofs.YtklmjdhhnnanoaaGreatDoor
set_option maxRecDepth 100000
namespace Go.Proofs.YtklmjdhhnnanoaaGreatDoor
open Go.ChangeShapes Go.WideShapes Go.ChangeAt Go.RowKit
section
variable {α : Type} {k : Nat} {en : α → List Value} {E L : TypeId}
theorem run_lit3 (hE : EltX E k en) (hu : Tryz.prog.underlying L = some (.slice E)) (x y z : α) {v u s : Value} (hv : v.cells.toList = en x) (hy : u.cells.toList = en y) (hz' : s.cells.toList = en z) (hk : k ≤ 1000) (w : World) :
    (Instr.buildSlice L 3 #[(0, v), (1, u), (2, s)]).run Tryz.prog w = .ok (.slice (some ⟨w.heap.size, 0, none⟩) 3 3) (w.alloc (.cells (en x ++ (en y ++ en z)).toArray E)) := by
  obtain ⟨ie, zz, hi, hz, h1, h2, h3⟩ := hE.info
  refine run_buildSlice w L E 3 _ _ ie zz hu hi hz (by rw [h1]; omega) (by rw [h1]; have := hE.pos; omega) ?_
  have hcs : v.cells.size = k := by rw [← Array.length_toList, hv, hE.len]
  have hcu : u.cells.size = k := by rw [← Array.length_toList, hy, hE.len]
  have hcz : s.cells.size = k := by rw [← Array.length_toList, hz', hE.len]
  have := fill_consec (place := fun i => some (i * ie.size, ie.size)) [v, u, s] [(0, k), (k, k), (2 * k, k)] [] (((Array.range (3 * ie.size)).map (zz.cells[· % zz.cells.size]!)).toList) 0 ⟨rfl, by simp, by simp; omega, trivial⟩ (by simp [hcs, hcu, hcz]) (by simp [h1]; omega) (fun j hj => by
    have : j = 0 ∨ j = 1 ∨ j = 2 := by simp at hj; omega
    rcases this with rfl | rfl | rfl
    · simp [h1]
    · simp [h1]
    · simp [h1])
  simp only [List.nil_append, List.map_cons, List.map_nil, List.sum_cons, List.sum_nil, Nat.add_zero, List.flatMap_cons, List.flatMap_nil, List.append_nil, hv, hy, hz'] at this
  rw [List.drop_eq_nil_of_le (by simp [h1]; omega), List.append_nil, Array.toArray_toList] at this
  exact this
variable {ops : Array Oper} {Q : Exit → Act → World → Prop} {a : Act} {w : World} {rest : List Oper} {dst : Option Tmp} {ty : TypeId} {pos : String} {after : Array Edge} {o p q : Operand} {x y z : α} {v u s : Value}
theorem wlit3 (hE : EltX E k en) (hu : Tryz.prog.underlying L = some (.slice E)) (hk : k ≤ 1000) (ho : a.eval o = v) (hp : a.eval p = u) (hq : a.eval q = s) (hv : v.cells.toList = en x) (hy : u.cells.toList = en y) (hz : s.cells.toList = en z)
    (h : wpList Tryz.prog ops Q rest (a.put dst (.slice (some ⟨w.heap.size, 0, none⟩) 3 3)) (w.alloc (.cells (en x ++ (en y ++ en z)).toArray E))) :
    wpList Tryz.prog ops Q (⟨dst, .buildSlice L 3 #[(0, o), (1, p), (2, q)], ty, pos, after, none⟩ :: rest) a w := by
  have hm : (#[(0, o), (1, p), (2, q)] : Array (Nat × Operand)).map (fun (i, x) => (i, a.eval x)) = #[(0, v), (1, u), (2, s)] := by
    simp only [List.map_toArray, List.map_cons, List.map_nil, ho, hp, hq]
  refine wpList_plain rfl fun K hK => ?_
  unfold Oper.wp execOp
  simp only [Sem.run_bind, hm, run_lit3 hE hu x y z hv hy hz hk w, Result.andThen_ok, Sem.run_pure]
  exact hK _ _ h
end
end Go.Proofs.YtklmjdhhnnanoaaGreatDoor
set_option maxRecDepth 100000
namespace Go.Proofs.YtklmjdhhnnanoaaGreatDoor
open Go.ChangeShapes Go.WideShapes Go.ChangeAt Go.RowKit
section
variable {α : Type} {k : Nat} {en : α → List Value} {E L : TypeId}
theorem run_lit4 (hE : EltX E k en) (hu : Tryz.prog.underlying L = some (.slice E)) (x y z t : α) {v u s r : Value} (hv : v.cells.toList = en x) (hy : u.cells.toList = en y) (hz' : s.cells.toList = en z) (hr : r.cells.toList = en t) (hk : k ≤ 1000) (w : World) :
    (Instr.buildSlice L 4 #[(0, v), (1, u), (2, s), (3, r)]).run Tryz.prog w = .ok (.slice (some ⟨w.heap.size, 0, none⟩) 4 4) (w.alloc (.cells (en x ++ (en y ++ (en z ++ en t))).toArray E)) := by
  obtain ⟨ie, zz, hi, hz, h1, h2, h3⟩ := hE.info
  refine run_buildSlice w L E 4 _ _ ie zz hu hi hz (by rw [h1]; omega) (by rw [h1]; have := hE.pos; omega) ?_
  have hcs : v.cells.size = k := by rw [← Array.length_toList, hv, hE.len]
  have hcu : u.cells.size = k := by rw [← Array.length_toList, hy, hE.len]
  have hcz : s.cells.size = k := by rw [← Array.length_toList, hz', hE.len]
  have hct : r.cells.size = k := by rw [← Array.length_toList, hr, hE.len]
  have := fill_consec (place := fun i => some (i * ie.size, ie.size)) [v, u, s, r] [(0, k), (k, k), (2 * k, k), (3 * k, k)] [] (((Array.range (4 * ie.size)).map (zz.cells[· % zz.cells.size]!)).toList) 0 ⟨rfl, by simp, by simp; omega, by simp; omega, trivial⟩ (by simp [hcs, hcu, hcz, hct]) (by simp [h1]; omega) (fun j hj => by
    have : j = 0 ∨ j = 1 ∨ j = 2 ∨ j = 3 := by simp at hj; omega
    rcases this with rfl | rfl | rfl | rfl
    · simp [h1]
    · simp [h1]
    · simp [h1]
    · simp [h1])
  simp only [List.nil_append, List.map_cons, List.map_nil, List.sum_cons, List.sum_nil, Nat.add_zero, List.flatMap_cons, List.flatMap_nil, List.append_nil, hv, hy, hz', hr] at this
  rw [List.drop_eq_nil_of_le (by simp [h1]; omega), List.append_nil, Array.toArray_toList] at this
  exact this
variable {ops : Array Oper} {Q : Exit → Act → World → Prop} {a : Act} {w : World} {rest : List Oper} {dst : Option Tmp} {ty : TypeId} {pos : String} {after : Array Edge} {o p q b : Operand} {x y z t : α} {v u s r : Value}
theorem wlit4 (hE : EltX E k en) (hu : Tryz.prog.underlying L = some (.slice E)) (hk : k ≤ 1000) (ho : a.eval o = v) (hp : a.eval p = u) (hq : a.eval q = s) (hb : a.eval b = r) (hv : v.cells.toList = en x) (hy : u.cells.toList = en y) (hz : s.cells.toList = en z) (hr : r.cells.toList = en t)
    (h : wpList Tryz.prog ops Q rest (a.put dst (.slice (some ⟨w.heap.size, 0, none⟩) 4 4)) (w.alloc (.cells (en x ++ (en y ++ (en z ++ en t))).toArray E))) :
    wpList Tryz.prog ops Q (⟨dst, .buildSlice L 4 #[(0, o), (1, p), (2, q), (3, b)], ty, pos, after, none⟩ :: rest) a w := by
  have hm : (#[(0, o), (1, p), (2, q), (3, b)] : Array (Nat × Operand)).map (fun (i, x) => (i, a.eval x)) = #[(0, v), (1, u), (2, s), (3, r)] := by
    simp only [List.map_toArray, List.map_cons, List.map_nil, ho, hp, hq, hb]
  refine wpList_plain rfl fun K hK => ?_
  unfold Oper.wp execOp
  simp only [Sem.run_bind, hm, run_lit4 hE hu x y z t hv hy hz hr hk w, Result.andThen_ok, Sem.run_pure]
  exact hK _ _ h
end
end Go.Proofs.YtklmjdhhnnanoaaGreatDoor
set_option maxRecDepth 100000
namespace Go.Proofs.YtklmjdhhnnanoaaGreatDoor
open Go.ChangeShapes Go.WideShapes Go.ChangeAt Go.RowKit
attribute [local go_sem] Gives GivesE
namespace MiM
open GeM
set_option maxHeartbeats 400000 in
theorem given19_any (w : World) : Calls Tryz.prog 16 #[] w fun e w' => e = .returned (gv 4 1) ∧ Below w.heap.size w w' := by
  go_enter Tryz.func16, Tryz.ntmps16
  go_wp2_with fail
  refine ret_row rfl (Blk.new _ _ _) Tryz.underlying23 rfl (by kernel_rfl) rfl rfl ?_
  exact ⟨rfl, below_al _⟩
def ndS (j : Nat) : Nat := if j = 0 then 5 else if j = 63 then 6 else 0
theorem built_nd : Tryz.prog.built 37 [(0, .int .u8 5), (63, .int .u8 6)] = some (ar 64 ndS) := by kernel_rfl
theorem wr_size (k i : Int) (x : Nat → Nat) (k' i' : Int) (x' : Nat → Nat) : (wrL k i x).toArray.size = (wrL k' i' x').toArray.size := by rw [List.size_toArray, List.size_toArray, wrL_len, wrL_len]
theorem wr_one (k i : Int) (x : Nat → Nat) : (wrL k i x).toArray.all (·.oneCell') = true := by
  rw [List.all_toArray, List.all_eq_true]
  intro v hv
  unfold wrL at hv
  rcases List.mem_cons.1 hv with rfl | hv
  · rfl
  rcases List.mem_cons.1 hv with rfl | hv
  · rfl
  obtain ⟨j, hj⟩ := List.mem_iff_getElem?.1 hv
  rw [Array.getElem?_toList] at hj
  have hj2 : j < (ar 64 x).size := (Array.getElem?_eq_some_iff.1 hj).1
  rw [size_ar] at hj2
  rw [get_ar hj2] at hj
  cases hj; rfl
theorem zWr (w : World) : (zeroValue tyW).run Tryz.prog w = .ok (.agg (wrL 0 0 fun _ => 0).toArray) w := (zero_of_info (P := Tryz.prog) (t := tyW) (v := .agg (wrL 0 0 fun _ => 0).toArray) (n := 66) (by kernel_rfl)).1 w
set_option maxHeartbeats 800000 in
theorem node19_any (i : Int) (w : World) : Calls Tryz.prog 18 #[.int .i64 i] w fun e w' => e = .returned (.agg (wrL 3 i ndS).toArray) ∧ Below w.heap.size w w' := by
  go_enter Tryz.func18, Tryz.ntmps18
  go_wp2_with (first | (with_reducible apply alZ' zWr) | ((with_reducible apply wblV built_nd); (simp only [List.map_toArray, List.map_cons, List.map_nil]; rfl)) | ((with_reducible apply wblV (built_wr 3 i ndS)); (simp only [List.map_toArray, List.map_cons, List.map_nil]; rfl)) | ((with_reducible apply stR (tWr 3 i ndS)); rfl; rfl; exact Blk.new _ _ _; exact wr_size _ _ _ _ _ _; exact wr_one _ _ _))
  refine ret_row' (tWr 3 i ndS) rfl rfl rfl ((Blk.new w _ _).setRow_same _) ?_
  exact ⟨rfl, below_setRow ((Below.refl _ _).alloc (Nat.le_refl _) _) (Nat.le_refl _) _⟩
set_option maxHeartbeats 400000 in
theorem small19_any (x y : Nat) (hx : x < 256) (hy : y < 256) (w : World) : Calls Tryz.prog 8 #[.int .u8 x, .int .u8 y] w fun e w' => e = .returned (gv ((4 + x % 4 : Nat) : Int) ((1 + y % 4 : Nat) : Int)) ∧ Below w.heap.size w w' := by
  obtain ⟨p, hp⟩ : ∃ p, p = x % 4 := ⟨_, rfl⟩
  obtain ⟨q, hq⟩ : ∃ q, q = y % 4 := ⟨_, rfl⟩
  rw [← hp, ← hq]
  have HP := hid hp
  have HQ := hid hq
  clear hp hq
  go_enter Tryz.func8, Tryz.ntmps8
  go_wp2_with fail
  refine ret_row rfl (Blk.new _ _ _) Tryz.underlying23 rfl (by kernel_rfl) rfl rfl ?_
  refine ⟨?_, below_al _⟩
  have h1 : (4 : Int) + (x : Int) % 4 = ((4 + p : Nat) : Int) := by rw [HP.out]; omega
  have h2 : (1 : Int) + (y : Int) % 4 = ((1 + q : Nat) : Int) := by rw [HQ.out]; omega
  rw [h1, h2]
set_option maxHeartbeats 1600000 in
theorem is19_any {w : World} {B1 B2 : Nat} {A1 A2 : Option Addr} {c1 c2 : Nat} {l1 l2 : List Nat} (h1 : OwnI w B1 (.slice A1 l1.length c1) l1) (h2 : OwnI w B2 (.slice A2 l2.length c2) l2) (hl1 : l1.length ≤ 1000) (_hl2 : l2.length ≤ 1000) :
    Calls Tryz.prog 22 #[.slice A1 l1.length c1, .slice A2 l2.length c2] w fun e w' => e = .returned (.bool (decide (l1 = l2))) ∧ Below w.heap.size w w' := by
  have HO1 := hid h1
  have HO2 := hid h2
  clear h1 h2
  obtain ⟨q, hq⟩ : ∃ q, q = decide (l1 = l2) := ⟨_, rfl⟩
  have HQ := hid hq
  rw [← hq]
  clear hq
  by_cases hlen : l1.length = l2.length
  · obtain ⟨n, hn⟩ : ∃ n, n = l1.length := ⟨_, rfl⟩
    have L1 := hid hn
    have L2 := hid (hn.trans hlen)
    rw [← hlen, ← hn]
    rw [← hn] at hl1
    have hgap := hid (show (∀ i, i < n → l1.getD i 0 = l2.getD i 0) → l1 = l2 from fun h => List.ext_getElem? fun i => by
      by_cases hi : i < n
      · have := h i hi
        rw [List.getD_eq_getElem?_getD, List.getD_eq_getElem?_getD, List.getElem?_eq_getElem (by omega), List.getElem?_eq_getElem (by omega), Option.getD_some, Option.getD_some] at this
        rw [List.getElem?_eq_getElem (by omega), List.getElem?_eq_getElem (by omega), this]
      · rw [List.getElem?_eq_none (by omega), List.getElem?_eq_none (by omega)])
    clear hn hlen
    go_enter Tryz.func22, Tryz.ntmps22
    go_wp2_with fail
    go_loopw [5] (fun u wr => ∃ k : Nat, u = .int .i64 k ∧ k ≤ n ∧ Hid (Below w.heap.size w wr) ∧ Hid (∀ i, i < k → l1.getD i 0 = l2.getD i 0)) (fun u _ => n - (intOf u).toNat)
    case atStart => exact ⟨0, rfl, Nat.zero_le _, hid (Below.refl _ _), hid fun i hi => absurd hi (Nat.not_lt_zero _)⟩
    case round =>
      obtain ⟨k, rfl, hk, HB, HM⟩ := hrel
      by_cases hgo : k < n
      · have t1 : (k : Int) < n := by omega
        obtain ⟨g1, c1', e1, r1⟩ := OwnI.get (HO1.out) (j := k) (by rw [← L1.out]; exact hgo)
        obtain ⟨g2, c2', e2, r2⟩ := OwnI.get (HO2.out) (j := k) (by rw [← L2.out]; exact hgo)
        simp only [Value.slice.injEq] at e1 e2
        obtain ⟨rfl, _, rfl⟩ := e1
        obtain ⟨rfl, _, rfl⟩ := e2
        have k1 := r1 k (by rw [← L1.out]; exact hgo)
        have k2 := r2 k (by rw [← L2.out]; exact hgo)
        obtain ⟨x, hx⟩ : ∃ x, x = l1.getD k 0 := ⟨_, rfl⟩
        obtain ⟨y, hy⟩ : ∃ y, y = l2.getD k 0 := ⟨_, rfl⟩
        rw [← hx] at k1
        rw [← hy] at k2
        have K1 := hid (show ∀ w', Below w.heap.size w w' → w'.cell? ⟨g1, k, none⟩ = some (.int .i64 x) from fun w' h => (h.cell (p := ⟨g1, k, none⟩) (World.block_lt_of_cell? w _ k1)).trans k1)
        have K2 := hid (show ∀ w', Below w.heap.size w w' → w'.cell? ⟨g2, k, none⟩ = some (.int .i64 y) from fun w' h => (h.cell (p := ⟨g2, k, none⟩) (World.block_lt_of_cell? w _ k2)).trans k2)
        have X := hid hx
        have Y := hid hy
        clear r1 r2 k1 k2 hx hy
        go_wp2_with fail
        refine wp_region_tail (C := fun w' => Below w.heap.size w w') 9 (by kernel_rfl) (by kernel_rfl) (by kernel_rfl) HB.out.drew ?_
        simp only [List.take_succ_cons, List.take_zero, List.drop_succ_cons, List.drop_zero]
        apply wpK_val
        · rfl
        · intro w' hw'
          go_simp
          first | exact rfl | exact ⟨rfl, hw'⟩
        simp only [Act.put, sqA, sqB, sqC]
        apply wpK_val
        · rfl
        · intro w' hw'
          go_simp
          first | exact rfl | exact ⟨rfl, hw'⟩
        simp only [Act.put, sqA, sqB, sqC]
        apply wpK_val
        · rfl
        · intro w' hw'
          go_simp
          first | exact rfl | exact ⟨rfl, hw'⟩
        simp only [Act.put, sqA, sqB, sqC]
        apply wpK_val
        · rfl
        · intro w' hw'
          have hcell := K1.out w' hw'
          go_simp
          first | exact rfl | exact ⟨rfl, hw'⟩
        simp only [Act.put, sqA, sqB, sqC]
        apply wpK_val
        · rfl
        · intro w' hw'
          go_simp
          first | exact rfl | exact ⟨rfl, hw'⟩
        simp only [Act.put, sqA, sqB, sqC]
        apply wpK_val
        · rfl
        · intro w' hw'
          go_simp
          first | exact rfl | exact ⟨rfl, hw'⟩
        simp only [Act.put, sqA, sqB, sqC]
        apply wpK_val
        · rfl
        · intro w' hw'
          go_simp
          first | exact rfl | exact ⟨rfl, hw'⟩
        simp only [Act.put, sqA, sqB, sqC]
        apply wpK_val
        · rfl
        · intro w' hw'
          have hcell := K2.out w' hw'
          go_simp
          first | exact rfl | exact ⟨rfl, hw'⟩
        simp only [Act.put, sqA, sqB, sqC]
        by_cases hxy : x = y
        · have t2 : ((x : Int) != (y : Int)) = false := by rw [hxy]; simp
          have T2 := hid t2
          have XY := hid hxy
          clear t2 hxy
          apply wpK_val
          · rfl
          · intro w' hw'
            have h1 : _ = _ := T2.out
            go_simp
            first | exact rfl | exact ⟨rfl, hw'⟩
          simp only [Act.put, sqA, sqB, sqC]
          refine wpK_nil fun w2 hw2 => ?_
          have B2 := hid hw2
          clear hw2
          go_wp2_with fail
          go_roundw
          case rel =>
            refine ⟨k + 1, by go_num, by omega, B2, hid fun i hi => ?_⟩
            by_cases e : i = k
            · rw [e, ← X.out, ← Y.out, XY.out]
            · exact HM.out i (by omega)
          case measure => simp [intOf] <;> omega
        · have t2 : ((x : Int) != (y : Int)) = true := by rw [bne_iff_ne]; omega
          have hf := hid (show decide (l1 = l2) = false from decide_eq_false fun e => hxy (by rw [X.out, Y.out, e]))
          have T2 := hid t2
          clear t2 hxy
          apply wpK_val
          · rfl
          · intro w' hw'
            have h1 : _ = _ := T2.out
            go_simp
            first | exact rfl | exact ⟨rfl, hw'⟩
          simp only [Act.put, sqA, sqB, sqC]
          refine wpK_nil fun w2 hw2 => ?_
          have B2 := hid hw2
          clear hw2
          go_wp2_with fail
          go_ret
          exact ⟨by rw [HQ.out, hf.out]; rfl, B2.out⟩
      · have t1 : ¬ (k : Int) < n := by omega
        have hkn := hid (show n = k by omega)
        have hf := hid (show decide (l1 = l2) = true from decide_eq_true (hgap.out fun i hi => HM.out i (by rw [hkn.out] at hi; exact hi)))
        go_wp2_with fail
        go_ret
        exact ⟨by rw [HQ.out, hf.out]; rfl, HB.out⟩
  · have hf := hid (show decide (l1 = l2) = false from decide_eq_false fun e => hlen (by rw [e]))
    have t1 : (((l1.length : Nat) : Int) != ((l2.length : Nat) : Int)) = true := by rw [bne_iff_ne]; omega
    have t2 : ¬ l1.length = l2.length := hlen
    go_enter Tryz.func22, Tryz.ntmps22
    go_wp2_with fail
    go_ret
    exact ⟨by rw [HQ.out, hf.out]; rfl, Below.refl _ _⟩
theorem aw_1 : whL 4 1 1 3 = [0, 1, 2, 3] := by decide +kernel
theorem aw_2 : whL 4 1 3 3 = [3, 0, 1] := by decide +kernel
theorem aw_3 : whL 4 1 4 2 = [2] := by decide +kernel
set_option maxHeartbeats 1600000 in
theorem awake19_any (w : World) : Calls Tryz.prog 7 #[] w fun e w' => e = .returned (.bool true) ∧ Below w.heap.size w w' := by
  go_enter Tryz.func7, Tryz.ntmps7
  go_wp2_with fail
  refine (given19_any _).mono ?_
  rintro e w1 ⟨rfl, h1⟩
  have B1 := hid h1
  clear h1
  unfold gv
  go_wp2_with ((with_reducible apply wblV (built_w0 1 3)); (simp only [List.map_toArray, List.map_cons, List.map_nil]; rfl))
  refine (where_any 4 1 1 3 (fun _ => 0) (by omega) w1).mono ?_
  rintro e w2 ⟨v, rfl, o2, h2⟩
  rw [aw_1] at o2
  obtain ⟨A2, c2, rfl⟩ := OwnI.len o2
  have O2 := hid o2
  have B2 := hid (B1.out.trans (h2.mono B1.out.size))
  clear o2 h2 B1
  have P2 := hid (own_nats [0, 1, 2, 3] w2 (Nat.le_refl _) (by unfold maxLen; simp))
  have b2 : Below w2.heap.size w2 (w2.alloc (.cells ([0, 1, 2, 3].map fun j : Nat => Value.int .i64 j).toArray 3)) := (Below.refl _ _).alloc (Nat.le_refl _) _
  have O3 := hid (O2.out.below b2 (Nat.le_refl _))
  have B3 := hid (B2.out.trans (b2.mono B2.out.size))
  clear b2
  go_wp2_with ((with_reducible apply wlit4 eltNat undNat (x := 0) (y := 1) (z := 2) (t := 3)); omega; rfl; rfl; rfl; rfl; rfl; rfl; rfl; rfl)
  refine (is19_any O3.out P2.out (by simp) (by simp)).mono ?_
  rintro e w3 ⟨rfl, h3⟩
  rw [decide_eq_true rfl]
  have B4 := hid (B3.out.trans (h3.mono B3.out.size))
  clear h3 B2 B3 O2 O3 P2
  go_wp2_with fail
  refine (given19_any _).mono ?_
  rintro e w4 ⟨rfl, h1⟩
  have B5 := hid (B4.out.trans (h1.mono B4.out.size))
  clear h1 B4
  unfold gv
  go_wp2_with fail
  refine (node19_any 3 _).mono ?_
  rintro e w5 ⟨rfl, h1⟩
  have B1 := hid (B5.out.trans (h1.mono B5.out.size))
  clear h1 B5
  go_wp2_with fail
  refine (where_any 4 1 3 3 ndS (by omega) w5).mono ?_
  rintro e w6 ⟨v, rfl, o2, h2⟩
  rw [aw_2] at o2
  obtain ⟨A2, c2, rfl⟩ := OwnI.len o2
  have O2 := hid o2
  have B2 := hid (B1.out.trans (h2.mono B1.out.size))
  clear o2 h2 B1
  have P2 := hid (own_nats [3, 0, 1] w6 (Nat.le_refl _) (by unfold maxLen; simp))
  have b2 : Below w6.heap.size w6 (w6.alloc (.cells ([3, 0, 1].map fun j : Nat => Value.int .i64 j).toArray 3)) := (Below.refl _ _).alloc (Nat.le_refl _) _
  have O3 := hid (O2.out.below b2 (Nat.le_refl _))
  have B3 := hid (B2.out.trans (b2.mono B2.out.size))
  clear b2
  go_wp2_with ((with_reducible apply wlit3 eltNat undNat (x := 3) (y := 0) (z := 1)); omega; rfl; rfl; rfl; rfl; rfl; rfl)
  refine (is19_any O3.out P2.out (by simp) (by simp)).mono ?_
  rintro e w7 ⟨rfl, h3⟩
  rw [decide_eq_true rfl]
  have B4 := hid (B3.out.trans (h3.mono B3.out.size))
  clear h3 B2 B3 O2 O3 P2
  go_wp2_with fail
  refine (given19_any _).mono ?_
  rintro e w8 ⟨rfl, h1⟩
  have B1 := hid (B4.out.trans (h1.mono B4.out.size))
  clear h1 B4
  unfold gv
  go_wp2_with ((with_reducible apply wblV (built_w0 4 2)); (simp only [List.map_toArray, List.map_cons, List.map_nil]; rfl))
  refine (where_any 4 1 4 2 (fun _ => 0) (by omega) w8).mono ?_
  rintro e w9 ⟨v, rfl, o2, h2⟩
  rw [aw_3] at o2
  obtain ⟨A2, c2, rfl⟩ := OwnI.len o2
  have O2 := hid o2
  have B2 := hid (B1.out.trans (h2.mono B1.out.size))
  clear o2 h2 B1
  have P2 := hid (own_nats [2] w9 (Nat.le_refl _) (by unfold maxLen; simp))
  have b2 : Below w9.heap.size w9 (w9.alloc (.cells ([2].map fun j : Nat => Value.int .i64 j).toArray 3)) := (Below.refl _ _).alloc (Nat.le_refl _) _
  have O3 := hid (O2.out.below b2 (Nat.le_refl _))
  have B3 := hid (B2.out.trans (b2.mono B2.out.size))
  clear b2
  go_wp2_with ((with_reducible apply wlit1 eltNat undNat (x := 2)); omega; rfl; rfl)
  refine (is19_any O3.out P2.out (by simp) (by simp)).mono ?_
  rintro e w10 ⟨rfl, h3⟩
  rw [decide_eq_true rfl]
  have B4 := hid (B3.out.trans (h3.mono B3.out.size))
  clear h3 B2 B3 O2 O3 P2
  go_wp2_with fail
  go_ret
  exact ⟨rfl, B4.out⟩
end MiM
end Go.Proofs.YtklmjdhhnnanoaaGreatDoor
