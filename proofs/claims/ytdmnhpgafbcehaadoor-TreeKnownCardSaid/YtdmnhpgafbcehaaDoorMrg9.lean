/-
  The landed tree: Set of a leaf that is there (the loop is written by tools/gen_trset.py).
  The tag of a known text under a known key, reckoned out.
-/
import Derived.Test.YtdmnhpgafbcehaaDoorMrg8
set_option linter.unusedVariables false
set_option linter.unusedSimpArgs false
set_option maxRecDepth 100000
namespace Go.Proofs.YtdmnhpgafbcehaaDoor
open Go.ChangeShapes Go.WideShapes Go.ChangeAt Go.RowKit Go.Shelf
attribute [local go_sem] Gives GivesE
attribute [local go_sem] Oper.semAt_some
namespace TrM
open TgP RwP StM
theorem eqA_ext {n : Nat} {f f' g : Nat → Nat} (h : ∀ k, k < n → f k = f' k) : eqA n f g = eqA n f' g := by
  rw [Bool.eq_iff_iff, eqA_iff, eqA_iff]
  exact ⟨fun H k hk => by rw [← h k hk]; exact H k hk, fun H k hk => by rw [h k hk]; exact H k hk⟩
theorem row_slice {X : World} {e : TypeId} {B size m : Nat} {v : Value} {xs : List Value} (h : X.ownsRow B e size v m xs) : ∃ A k c, v = .slice A k c := by
  rcases h.2 with ⟨rfl, _⟩ | ⟨g, cap, cur, rfl, _⟩
  · exact ⟨_, _, _, rfl⟩
  · exact ⟨_, _, _, rfl⟩
theorem row_turn {S : Nat → Prop} {X Y : World} {e : TypeId} {B size m : Nat} {v : Value} {xs : List Value} (h : X.ownsRow B e size v m xs) (ht : Turn S X Y) (hd : ∀ b, v.ownBlock = some b → ¬ S b) : Y.ownsRow B e size v m xs := by
  refine ⟨h.1, ?_⟩
  rcases h.2 with hn | ⟨g, cap, cur, rfl, hB, hg, rest⟩
  · exact .inl hn
  · exact .inr ⟨g, cap, cur, rfl, hB, (ht.block g (Array.getElem?_eq_some_iff.1 hg).1 (hd g rfl)).trans hg, rest⟩
/-- What Set's loop may turn. -/
def Ts (b0 b1 b2 b3 b4 b5 B k : Nat) : Prop := k = b0 ∨ k = b1 ∨ k = b2 ∨ k = b3 ∨ k = b4 ∨ k = b5 ∨ B ≤ k
/-- Behind the nodes pre: the number below and its new tag; the tags; what was collected. -/
def seI (g gl cl N bt bb b9 B : Nat) (t : Tr) (leaf : Nat) (f : Nat → Nat) (h : Nat) (pre : List (Nd (2 ^ h))) (W : World) : Prop :=
  ∃ b T F v, PT W g gl cl t.k N F ∧ Blk W bt 36 (ar 32 T) ∧ Blk W bb 3 #[.int .i64 (b : Nat)] ∧ Boxed W b9 39 v ∧ W.ownsRow B 3 1 v pre.length (pre.map fun j => Value.int .i64 ((j.1 : Nat) : Int)) ∧ b < N ∧ (∀ i, T i < 256) ∧
    (vals pre = (pthL h leaf).take pre.length → b = bn t.n leaf pre.length ∧ T = (t.set leaf f).tg b ∧ (∀ q j, q < N → j < 32 → F q j = stW t (t.set leaf f) leaf pre.length q j) ∧
      ∀ m, m < pre.length → eqA 32 (t.tg (bn t.n leaf m)) ((t.set leaf f).tg (bn t.n leaf m)) = false)
/-- Left early. -/
def seX (g gl cl N b6 b7 B : Nat) (t : Tr) (leaf : Nat) (f : Nat → Nat) (h : Nat) (pre : List (Nd (2 ^ h))) (W : World) : Prop :=
  ∃ F v l, PT W g gl cl t.k N F ∧ Boxed W b6 39 v ∧ Blk W b7 30 #[.int .i64 0] ∧ OwnI W B v l ∧
    (vals pre = (pthL h leaf).take pre.length → chg t (t.set leaf f) leaf = l ∧ ∀ q j, q < N → j < 32 → F q j = tagsFrom (t.set leaf f) 1 q j)
set_option maxHeartbeats 3200000 in
set_option maxRecDepth 100000 in
theorem set_yes {w : World} {g gl cl N n h : Nat} {t : Tr} (H : PT w g gl cl t.k N (tagsFrom t 1)) (hN : N = 2 * n) (hn : n = 2 ^ h) (htn : t.n = n) (hth : t.h = h) (hh : okH h) (h256 : ∀ i j, t.L i j < 256) (leaf : Nat) (hl : leaf < n) (f : Nat → Nat) (hf : ∀ i, f i < 256) (hS : Salts w) (hgt : tabs < gl) :
    Calls Tryd.prog 12 #[pT g, .int .i64 (leaf : Nat), .agg (ar 32 f)] w fun e w' => ∃ v, e = .returned (.tuple #[v, .int .i64 0]) ∧ OwnI w' w.heap.size v (chg t (t.set leaf f) leaf) ∧ PT w' g gl cl t.k N (tagsFrom (t.set leaf f) 1) ∧ Turn (fun b => b = gl) w w' := by
  have h12 : h ≤ 12 := by have := hh.2; omega
  have h1 : 1 ≤ h := by have := hh.1; omega
  have hn4 : n ≤ 4096 := by rw [hn]; exact pow_le h12
  have hn1 : 1 ≤ n := by omega
  have HE := hid (findV_ok (n := n) (j := (leaf : Nat)) (a := 0) (b := (n : Nat)) hn1 (by omega) (by omega))
  have HP := hid H
  have L0 := hid (H.lv hN hn4)
  have SA := hid hS
  have HF := hid hf
  have T256 := hid h256
  have U256 := hid (show ∀ i j, (t.set leaf f).L i j < 256 from fun i j => by
    show (if i = leaf then f else t.L i) j < 256
    split
    · exact hf j
    · exact h256 i j)
  have hl2 := hid (show leaf < 2 ^ h by omega)
  have HLF := hid (show leaf < t.n by omega)
  obtain ⟨Y, hY⟩ : ∃ Y, Y = n + leaf := ⟨_, rfl⟩
  have YE := hid (show Y = 2 ^ h + leaf by omega)
  have YB := hid (show Y = bn t.n leaf 0 by rw [bn_zero, htn, hY])
  have t1 : (n : Int) + (leaf : Int) = (Y : Int) := by omega
  have hY8 : Y < N := by omega
  have hY9 : Y ≤ 8192 := by omega
  have K := hid (SkB.mk' w (pT g) f)
  have NH := hid hn
  have HT := hid hth
  have HNn := hid htn
  have HO := hid hh
  have hgw := H.lt.1
  have hglw := H.lt.2
  have hN8 : N ≤ 8192 := by omega
  have hNa : 2 * n ≤ N := by omega
  have hNb : N ≤ 2 * n := by omega
  have HG := hid H.ne
  clear H hN hn htn hth hh h256 hf hS hY
  refine (callsIn_wide (n := 7)).1 ?_
  refine callsIn_of_wp_marks Tryd.func12 rfl trivial ?_ rfl
  simp only [Tryd.ntmps12, List.size_toArray, List.length_cons, List.length_nil, Nat.reduceAdd, Nat.reduceSub, Array.replicate_succ, Array.replicate_zero, List.push_toArray, List.append_toArray, List.nil_append, List.cons_append]
  gi_upto_region 1 with fail
  generalize World.alloc _ _ = w1 at K ⊢
  have P1 := hid (HP.out.below K.out.b)
  have L1 := hid (L0.out.on K.out.b)
  have cz := hid (K.out.t.cell 0)
  have hzl := K.out.t.lt
  have FD := hid (fun (w' : World) (hw' : Below w1.heap.size w1 w') => find_any ⟨_, rfl⟩ (L1.out.on hw') (leaf : Nat) 0 (n : Nat))
  rw [HE.out] at FD
  refine wpIn_wide.2 ?_
  refine wp_region_tail (C := fun w' => Below w1.heap.size w1 w') 5 (by kernel_rfl) (by kernel_rfl) (by kernel_rfl) (Below.refl _ _).drew ?_
  simp only [List.take_succ_cons, List.take_zero, List.drop_succ_cons, List.drop_zero]
  apply wpK_val
  · rfl
  · intro w' hw'
    have hcell := (hw'.cell (p := ⟨w.heap.size, 0, none⟩) hzl).trans cz.out
    go_simp
    first | exact rfl | exact ⟨rfl, hw'⟩
  simp only [Act.put, List.setIfInBounds_toArray, List.set_cons_succ, List.set_cons_zero]
  apply wpK_val
  · rfl
  · intro w' hw'
    go_simp
    first | exact rfl | exact ⟨rfl, hw'⟩
  simp only [Act.put, List.setIfInBounds_toArray, List.set_cons_succ, List.set_cons_zero]
  apply wpK_val
  · rfl
  · intro w' hw'
    have hcell := (hw'.cell (p := ⟨w.heap.size, 0, none⟩) hzl).trans cz.out
    go_simp
    first | exact rfl | exact ⟨rfl, hw'⟩
  simp only [Act.put, List.setIfInBounds_toArray, List.set_cons_succ, List.set_cons_zero]
  apply wpK_val
  · rfl
  · intro w' hw'
    go_simp
    exact (L1.out w' hw').mono fun e w5 h => ⟨h.1, h.2 ▸ hw'⟩
  simp only [Act.put, List.setIfInBounds_toArray, List.set_cons_succ, List.set_cons_zero]
  apply wpK_val
  · rfl
  · intro w' hw'
    go_simp
    exact (FD.out w' hw').mono fun e w5 h => ⟨h.1, h.2 ▸ hw'⟩
  simp only [Act.put, List.setIfInBounds_toArray, List.set_cons_succ, List.set_cons_zero]
  refine wpK_nil fun w2 h2 => ?_
  have hw12 := h2.size
  have B2 := hid (K.out.b.trans (h2.mono K.out.b.size))
  have z2 := hid (K.out.t.below h2 K.out.t.lt)
  have t2 := hid (K.out.f.below h2 K.out.f.lt)
  have l2 := hid (K.out.l.below h2 K.out.l.lt)
  have e2 := hid (K.out.e.below h2 K.out.e.lt)
  have P2 := hid (P1.out.below h2)
  have L2 := hid (L1.out.on h2)
  have hb7l := e2.out.lt
  clear h2 K P1 L1 cz hzl FD HE L0 HP
  go_wp2_with fail
  gi_upto_region 5 with fail
  have cl3 := hid (show Blk (w2.alloc (.cells #[.slice none 0 0] 39)) w2.heap.size 39 #[.slice none 0 0] from Blk.new _ _ _)
  have h3 := hid (show Below w2.heap.size w2 (w2.alloc (.cells #[.slice none 0 0] 39)) from (Below.refl _ _).alloc (Nat.le_refl _) _)
  generalize World.alloc w2 _ = w3 at cl3 h3 ⊢
  have B3 := hid (B2.out.trans (h3.out.mono B2.out.size))
  have z3 := hid (z2.out.below h3.out z2.out.lt)
  have t3 := hid (t2.out.below h3.out t2.out.lt)
  have l3 := hid (l2.out.below h3.out l2.out.lt)
  have e3 := hid (e2.out.below h3.out e2.out.lt)
  have P3 := hid (P2.out.below h3.out)
  have L3 := hid (L2.out.on h3.out)
  have cz := z3.out.cell 0
  obtain ⟨b9, hb9⟩ : ∃ b, b = w2.heap.size := ⟨_, rfl⟩
  rw [← hb9] at cl3 hb7l ⊢
  clear h3 z2 t2 l2 e2 P2 L2 B2 hw12 hb9
  gi_wp2
  refine ⟨trivial, (callsIn_wide.2 (L3.out w3 (Below.refl _ _))).mono ?_⟩
  rintro e w' ⟨rfl, rfl⟩
  gi_upto_region 6 with fail
  obtain ⟨bz, hbz⟩ : ∃ b, b = w.heap.size := ⟨_, rfl⟩
  obtain ⟨bt, hbt⟩ : ∃ b, b = w.heap.size + 1 := ⟨_, rfl⟩
  obtain ⟨b6, hb6⟩ : ∃ b, b = w.heap.size + 2 := ⟨_, rfl⟩
  obtain ⟨b7, hb7⟩ : ∃ b, b = w.heap.size + 3 := ⟨_, rfl⟩
  rw [show w.heap.size + 1 + 1 + 1 = b7 by omega, show w.heap.size + 1 + 1 = b6 by omega, show w.heap.size + 1 = bt by omega]
  have hkz := hid (show Blk w3 bz 29 #[pT g] by rw [hbz]; exact z3.out)
  have hkt := hid (show Blk w3 bt 36 (ar 32 f) by rw [hbt]; exact t3.out)
  have hk6 := hid (show Blk w3 b6 39 #[.slice none 0 0] by rw [hb6]; exact l3.out)
  have hk7 := hid (show Blk w3 b7 30 #[.int .i64 0] by rw [hb7]; exact e3.out)
  have N1 : w.heap.size = bz := by omega
  have I0 : w.heap.size ≤ bz := by omega
  have I1 : bz < bt := by omega
  have I2 : bt < b6 := by omega
  have I3 : b6 < b7 := by omega
  have I4 : b7 < b9 := by omega
  have I5 : gl < bz := by omega
  have I6 : g < bz := by omega
  rw [N1]
  clear z3 t3 l3 e3 cz hbz hbt hb6 hb7 N1 hb7l hgw hglw
  have hi4 := hid (show Blk (w3.alloc (.cells #[.int .i64 (Y : Nat)] 3)) w3.heap.size 3 #[.int .i64 (Y : Nat)] from Blk.new _ _ _)
  have h4 := hid (show Below w3.heap.size w3 (w3.alloc (.cells #[.int .i64 (Y : Nat)] 3)) from (Below.refl _ _).alloc (Nat.le_refl _) _)
  have I7 := cl3.out.lt
  obtain ⟨bb, hbb⟩ : ∃ b, b = w3.heap.size := ⟨_, rfl⟩
  rw [← hbb] at hi4 I7 ⊢
  have W3 := hid hbb
  generalize World.alloc w3 _ = w4 at hi4 h4 ⊢
  have hb4 : bb < w4.heap.size := hi4.out.lt
  have ci := hi4.out.cell 0
  clear hbb t1
  gi_wp2
  refine ⟨trivial, (callsIn_wide.2 (above_any Y w4)).mono ?_⟩
  rintro e w5 ⟨rfl, h5, k5⟩
  obtain ⟨bN, hbN⟩ : ∃ b, b = w4.heap.size := ⟨_, rfl⟩
  rw [← hbN] at k5 ⊢
  have w35 := hid (h4.out.trans (h5.mono h4.out.size))
  have KN := hid (k5.cell 0)
  rw [YE.out] at KN
  have bNl := k5.lt
  have hbNb : bb < bN := by omega
  have gi5 := hid (hi4.out.below h5 hi4.out.lt)
  have gz5 := hid (hkz.out.below w35.out hkz.out.lt)
  have gt5 := hid (hkt.out.below w35.out hkt.out.lt)
  have g65 := hid (hk6.out.below w35.out hk6.out.lt)
  have g75 := hid (hk7.out.below w35.out hk7.out.lt)
  have g95 := hid (cl3.out.below w35.out cl3.out.lt)
  have P5 := hid (P3.out.below w35.out)
  have B5 := hid (B3.out.trans (w35.out.mono B3.out.size))
  clear h5 k5 hbN w35 h4 hi4 hkz hkt hk6 hk7 cl3 ci P3 L3 B3 W3 hb4
  have HB := hid (show ∀ W, Turn (Ts gl bt bb b9 b6 b7 w5.heap.size) w5 W → Turn (fun b => b = gl) w W from fun W h => (Turn.of_new (S := fun b => b = gl) B5.out).trans h fun k e => by unfold Ts at e; have := B5.out.size; omega)
  obtain ⟨i0, hi, hz0, hz1, hz2⟩ := info_parts infoI
  have II := hid (And.intro hi (And.intro hz0 (And.intro hz1 hz2)))
  clear hi hz0 hz1 hz2
  gi_wp2
  refine wpIn_rangeFunc_ownG (α := Nd (2 ^ h)) rfl (by omega) (gf := 45) (lb := #[.pointer (some ⟨bN, 0, none⟩)]) rfl trivial (enters_of Tryd.func45 (by kernel_rfl) rfl)
    (encs := fun x => #[Value.int .i64 ((x.1 : Nat) : Int)]) (Kp := Turn (Ts gl bt bb b9 b6 b7 w5.heap.size)) (S := fun ys => vals ys = pthL h leaf) (Sp := fun pre => vals pre = (pthL h leaf).take pre.length ∧ pre.length ≤ h) (N := h) (w0 := w5)
    (fun l J Jx W hW _ _ hY h0 => above1_in l h leaf bN HO.out hl2.out (Ts gl bt bb b9 b6 b7 w5.heap.size) w5 KN.out (by unfold Ts; omega) J Jx hY W ((Turn.of_below hW).mono fun k e => .inr (.inr (.inr (.inr (.inr (.inr e)))))) h0)
    (fun h1 h2 => h1.trans h2 fun _ e => .inl e) (fun W l o o' hl _ _ _ => turn_putObj W l o' (.inr (.inr (.inr (.inr (.inr (.inr hl))))))) (Below.refl _ _) (fun _ => rfl)
    (fun pre W => (seI g gl cl N bt bb b9 w5.heap.size t leaf f h pre W ∧ Blk W b6 39 #[.slice none 0 0] ∧ Blk W b7 30 #[.int .i64 0]) ∧ Turn (Ts gl bt bb b9 b6 b7 w5.heap.size) w5 W)
    (fun c pre W => (c = .ret ∧ seX g gl cl N b6 b7 w.heap.size t leaf f h pre W) ∧ Turn (Ts gl bt bb b9 b6 b7 w5.heap.size) w5 W)
    (ownFrom_turn fun s X Y ⟨⟨⟨b, T, F, v, q1, q2, q3, q4, q5, q6, q7, q8⟩, q9, q10⟩, q11⟩ ht => ⟨⟨⟨b, T, F, v, q1.turn ht (not_walk q1.blk) (ownX_walk q1.own _ rfl), q2.turn ht (not_walk q2), q3.turn ht (not_walk q3), Blk.turn q4 ht (not_walk q4), row_turn q5 ht (row_walk q5), q6, q7, q8⟩, q9.turn ht (not_walk q9), q10.turn ht (not_walk q10)⟩, q11.trans ht fun k e => .inl (.inr (.inr (.inr (.inr (.inr (.inr e.1))))))⟩)
    (fun c => ownFrom_turn fun s X Y ⟨⟨q0, F, v, l, q1, q2, q3, q4, q5⟩, q11⟩ ht => ⟨⟨q0, F, v, l, q1.turn ht (not_walk q1.blk) (ownX_walk q1.own _ rfl), Blk.turn q2 ht (not_walk q2), q3.turn ht (not_walk q3), row_turn q4 ht (row_walk q4), q5⟩, q11.trans ht fun k e => .inl (.inr (.inr (.inr (.inr (.inr (.inr e.1))))))⟩)
    ⟨⟨⟨Y, f, tagsFrom t 1, _, P5.out, gt5.out, gi5.out, g95.out, World.ownsRow_nil _ _ _ _, hY8, HF.out, fun _ => ⟨YB.out, by rw [YB.out, bn_zero, set_leaf HLF.out], fun q j _ _ => by rw [List.length_nil, stW_zero], fun m hm => by cases hm⟩⟩, g65.out, g75.out⟩, Turn.refl _ _⟩
    (fun x => { tmps := #[pT g, .int .i64 (leaf : Nat), .agg (ar 32 f), .pointer (some ⟨bz, 0, none⟩), undef, .pointer (some ⟨bt, 0, none⟩), .pointer (some ⟨b6, 0, none⟩), .pointer (some ⟨b7, 0, none⟩), .int .i64 0, .pointer (some ⟨b9, 0, none⟩), .pointer (some ⟨bb, 0, none⟩), .int .i64 ((x.1 : Nat) : Int), pT g, .int .i64 (leaf : Nat), pT g, .int .i64 (n : Nat), .int .i64 0, .int .i64 0, .bool false, undef, pT g, .int .i64 (n : Nat), .int .i64 (leaf : Nat), .int .i64 (Y : Nat), .int .i64 (Y : Nat), .func (.func 45) #[] #[.pointer (some ⟨bN, 0, none⟩)], .int .i64 ((x.1 : Nat) : Int), undef, undef, undef, undef, undef, undef, undef, undef, undef, undef, undef, undef, undef, undef, undef, undef, undef, undef, undef, undef, undef, undef, undef, undef, undef, undef, undef, undef, undef, undef, undef, undef, undef, undef, undef, undef, undef, undef, undef], defers := [] }) ?assign ?body ?done ?stop
  case assign =>
    intro l x W K hK
    gi_wp2
    exact hK
  case body =>
    rintro l pre x W ⟨⟨⟨b, T, F, v, hP, ht, hb, hv, hrow, hbN, hT256, himp⟩, hk6, hk7⟩, hT⟩ hlt
    have hx2 : x.1 < n := Nat.lt_of_lt_of_le x.2.2 (Nat.le_of_eq NH.out.symm)
    have hx1 := x.2.1
    have HT2 := hid hT
    have SN := hid (fun (e : vals (pre ++ [x]) = (pthL h leaf).take (pre ++ [x]).length) => vals_snoc (leaf := leaf) hlt e)
    obtain ⟨A9, m9, c9, rfl⟩ := row_slice hrow
    have IMP := hid himp
    have HPW := hid hP
    have cz := hid ((gz5.out.turn hT (by unfold Ts; omega)).cell 0)
    have cg := hid hP.c
    have cb := hid (hb.cell 0)
    have ht := hid ht
    have hbW := hid hb
    have HV := hid hv
    have HR := hid hrow
    have H6 := hid hk6
    have H7 := hid hk7
    have R1 := hid (OwnF.range hP.own hbN)
    have TT := hid hT256
    have bzl := World.block_lt_of_cell? _ _ cz.out
    have ggl := hP.lt.1
    have gll := hP.lt.2
    have bbl := hb.lt
    have btl := ht.out.lt
    have b9l := hv.lt
    have b6l := hk6.lt
    have b7l := hk7.lt
    have SW := hid (Salts.at SA.out (HB.out W hT) hgt)
    have hWs := hT.size
    have hlt2 := hlt
    obtain ⟨b1, hb1⟩ : ∃ b1, b1 = eqA 32 (F b) T := ⟨_, rfl⟩
    have B1 := hid hb1.symm
    obtain ⟨xx, hxx⟩ : ∃ y, y = x.1 := ⟨_, rfl⟩
    rw [← hxx] at hx1 hx2 ⊢
    have XE := hid hxx
    clear hP hb hv hrow himp hk6 hk7 hT hb1 hxx hT256
    gi_wp2
    cases b1
    · skip
      refine wpi_region_tail (C := fun w' => Below W.heap.size W w') 9 (by kernel_rfl) (by kernel_rfl) (by rintro ⟨_, _, h⟩; exact h) (by kernel_rfl) (by kernel_rfl) (Below.refl _ _).drew ?_
      simp only [List.take_succ_cons, List.take_zero, List.drop_succ_cons, List.drop_zero]
      apply wpK_val
      · rfl
      · intro w' hw'
        have hcell := (hw'.cell (p := ⟨bz, 0, none⟩) bzl).trans cz.out
        go_simp
        first | exact rfl | exact ⟨rfl, hw'⟩
      simp only [Act.put, List.setIfInBounds_toArray, List.set_cons_succ, List.set_cons_zero]
      apply wpK_val
      · rfl
      · intro w' hw'
        go_simp
        first | exact rfl | exact ⟨rfl, hw'⟩
      simp only [Act.put, List.setIfInBounds_toArray, List.set_cons_succ, List.set_cons_zero]
      apply wpK_val
      · rfl
      · intro w' hw'
        go_simp
        first | exact rfl | exact ⟨rfl, hw'⟩
      simp only [Act.put, List.setIfInBounds_toArray, List.set_cons_succ, List.set_cons_zero]
      apply wpK_val
      · rfl
      · intro w' hw'
        have hcell := (hw'.cell (p := ⟨g, 32, none⟩) ggl).trans cg.out
        go_simp
        first | exact rfl | exact ⟨rfl, hw'⟩
      simp only [Act.put, List.setIfInBounds_toArray, List.set_cons_succ, List.set_cons_zero]
      apply wpK_val
      · rfl
      · intro w' hw'
        have hcell := (hw'.cell (p := ⟨bb, 0, none⟩) bbl).trans cb.out
        go_simp
        first | exact rfl | exact ⟨rfl, hw'⟩
      simp only [Act.put, List.setIfInBounds_toArray, List.set_cons_succ, List.set_cons_zero]
      apply wpK_val
      · rfl
      · intro w' hw'
        have l1 : b < N := hbN
        go_simp
        first | exact rfl | exact ⟨rfl, hw'⟩
      simp only [Act.put, List.setIfInBounds_toArray, List.set_cons_succ, List.set_cons_zero]
      apply kldA tT
      · rfl
      · rfl
      · exact fun w' hw' => fun q v hq => (hw'.cell (p := ⟨gl, b * 32 + q, none⟩) gll).trans (R1.out q v hq)
      simp only [Act.put, List.setIfInBounds_toArray, List.set_cons_succ, List.set_cons_zero]
      apply kldA tT
      · rfl
      · rfl
      · exact fun w' hw' => (ht.out.below hw' btl).head
      simp only [Act.put, List.setIfInBounds_toArray, List.set_cons_succ, List.set_cons_zero]
      apply keqU false uT eqgT
      · rfl
      · rfl
      · rfl
      · exact (by rw [B1.out])
      simp only [Act.put, List.setIfInBounds_toArray, List.set_cons_succ, List.set_cons_zero]
      refine wpK_nil fun w8 h8 => ?_
      have H8 := hid h8
      clear h8
      have P8 := hid (HPW.out.below H8.out)
      have cz8 := hid ((H8.out.cell (p := ⟨bz, 0, none⟩) bzl).trans cz.out)
      have cg8 := hid (P8.out.c)
      have hb8 := hid (hbW.out.below H8.out bbl)
      have cb8 := hid (hb8.out.cell 0)
      have ht8 := hid (ht.out.below H8.out btl)
      have ggl8 := P8.out.lt.1
      have bzl8 := World.block_lt_of_cell? _ _ cz8.out
      have bbl8 := hb8.out.lt
      have btl8 := ht8.out.lt
      go_wp2_with fail
      gi_wp2
      refine wpi_region_tail (C := fun w' => Below w8.heap.size w8 w') 7 (by kernel_rfl) (by kernel_rfl) (by rintro ⟨_, _, h⟩; exact h) (by kernel_rfl) (by kernel_rfl) (Below.refl _ _).drew ?_
      simp only [List.take_succ_cons, List.take_zero, List.drop_succ_cons, List.drop_zero]
      apply wpK_val
      · rfl
      · intro w' hw'
        have hcell := (hw'.cell (p := ⟨bz, 0, none⟩) bzl8).trans cz8.out
        go_simp
        first | exact rfl | exact ⟨rfl, hw'⟩
      simp only [Act.put, List.setIfInBounds_toArray, List.set_cons_succ, List.set_cons_zero]
      apply wpK_val
      · rfl
      · intro w' hw'
        go_simp
        first | exact rfl | exact ⟨rfl, hw'⟩
      simp only [Act.put, List.setIfInBounds_toArray, List.set_cons_succ, List.set_cons_zero]
      apply wpK_val
      · rfl
      · intro w' hw'
        go_simp
        first | exact rfl | exact ⟨rfl, hw'⟩
      simp only [Act.put, List.setIfInBounds_toArray, List.set_cons_succ, List.set_cons_zero]
      apply wpK_val
      · rfl
      · intro w' hw'
        have hcell := (hw'.cell (p := ⟨g, 32, none⟩) ggl8).trans cg8.out
        go_simp
        first | exact rfl | exact ⟨rfl, hw'⟩
      simp only [Act.put, List.setIfInBounds_toArray, List.set_cons_succ, List.set_cons_zero]
      apply wpK_val
      · rfl
      · intro w' hw'
        have hcell := (hw'.cell (p := ⟨bb, 0, none⟩) bbl8).trans cb8.out
        go_simp
        first | exact rfl | exact ⟨rfl, hw'⟩
      simp only [Act.put, List.setIfInBounds_toArray, List.set_cons_succ, List.set_cons_zero]
      apply kldA tT
      · rfl
      · rfl
      · exact fun w' hw' => (ht8.out.below hw' btl8).head
      simp only [Act.put, List.setIfInBounds_toArray, List.set_cons_succ, List.set_cons_zero]
      apply wpK_val
      · rfl
      · intro w' hw'
        have l1 : b < N := hbN
        go_simp
        first | exact rfl | exact ⟨rfl, hw'⟩
      simp only [Act.put, List.setIfInBounds_toArray, List.set_cons_succ, List.set_cons_zero]
      refine wpK_nil fun w9 h9 => ?_
      have P9 := hid (P8.out.below h9)
      have W9 := hid (H8.out.trans (h9.mono H8.out.size))
      clear h9 cg8 R1
      go_wp2_with ((with_reducible apply wstF (i := b) tT (by omega)); rfl; rfl; rfl; exact P9.out.own; exact hbN; intro w10 o10 t10)
      obtain ⟨F1, hF1⟩ : ∃ F1, F1 = upF F b T := ⟨_, rfl⟩
      have F1E := hid hF1
      have P10 := hid (show PT w10 g gl cl t.k N F1 from ⟨P9.out.blk.turn t10 HG.out, by rw [hF1]; exact o10, P9.out.k256, fun i j => by
        rw [hF1]
        unfold upF
        split
        · exact TT.out j
        · exact P9.out.F256 i j⟩)
      have T10 := hid (show Turn (fun q => q = gl) W w10 from (Turn.of_new (S := fun q => q = gl) W9.out).trans t10 fun _ e => .inl e)
      have z10 := hid ((T10.out.cell cz.out (by show ¬ bz = gl; omega)))
      have b10 := hid (hbW.out.turn T10.out (by omega))
      have tt10 := hid (ht.out.turn T10.out (by omega))
      have v10 := hid (show Boxed w10 b9 39 (.slice A9 m9 c9) from Blk.turn HV.out T10.out (by omega))
      have H610 := hid (H6.out.turn T10.out (by omega))
      have H710 := hid (H7.out.turn T10.out (by omega))
      have r10 := hid (row_turn HR.out T10.out fun q e e2 => by have := (World.ownsRow.lt HR.out q e).1; omega)
      have s10 := hid (show w5.heap.size ≤ w10.heap.size from Nat.le_trans hWs T10.out.size)
      clear hF1 o10 t10 P9 W9 P8 cz8 hb8 cb8 ht8 H8
      have hv := v10.out
      have hc := hv.cell
      have hf := hv.frozen
      have hml : 65 ≤ maxLen := by unfold maxLen; omega
      have hp12 : pre.length < 12 := by omega
      gi_wp2_with (gi_at_builtin; refine wpListIn_append_own _ rfl _ _ 39 rfl w5.heap.size 3 i0 (.int .i64 0) 1 8 Tryd.underlying39 II.out.1 II.out.2.1 II.out.2.2.1 II.out.2.2.2 rfl (by decide) _ _ _ rfl (r10.out.alloc _) ⟨w10.heap.size, 0, none⟩ 1 1 [.int .i64 (xx : Nat)] rfl rfl (cell_one_new _ _ _) (by simp [Value.oneCell']) (by omega) (by omega) (by have := s10.out; simp; omega) ?_; intro v' wa hown' hgrow _; obtain ⟨g', cap', rfl⟩ := ownsRow_succ hown'; obtain ⟨hv1, hv2, hr2, hk2, hb2⟩ := box_app (T := Tl b9 w5.heap.size) hv (by decide) r10.out s10.out (.inl rfl) (fun _ e => .inr e) hown' hgrow; have hc1 := hv1.cell; have hf1 := hv1.frozen)
      generalize hw11 : World.setCell wa _ _ = w11 at hv2 hr2 hk2 hb2 ⊢
      have P11 := hid (P10.out.turn hb2 (by unfold Tl; omega) (by unfold Tl; omega))
      have z11 := hid (hb2.cell z10.out (by unfold Tl; show ¬ (bz = b9 ∨ w5.heap.size ≤ bz); omega))
      have b11 := hid (b10.out.turn hb2 (by unfold Tl; omega))
      have t11 := hid (tt10.out.turn hb2 (by unfold Tl; omega))
      have H611 := hid (H610.out.turn hb2 (by unfold Tl; omega))
      have H711 := hid (H710.out.turn hb2 (by unfold Tl; omega))
      have V11 := hid hv2
      have R11 := hid hr2
      have K11 := hid (show KeepsFrom w5.heap.size W w11 from (keepsFrom_turn T10.out (by rintro q rfl; obtain ⟨cur, hc, _⟩ := HPW.out.own.obj; exact ⟨_, hc, rfl⟩)).trans (hk2.from _))
      have TW11 := hid (show Turn (Ts gl bt bb b9 b6 b7 w5.heap.size) W w11 from (T10.out.mono fun q e => .inl e).trans hb2 fun q e => .inl (e.elim (fun e => .inr (.inr (.inr (.inl e)))) fun e => .inr (.inr (.inr (.inr (.inr (.inr e)))))))
      have T511 := hid (HT2.out.trans TW11.out fun _ e => .inl e)
      have SW11 := hid (Salts.at SA.out (HB.out w11 T511.out) hgt)
      clear hw11 hv hc hf hv1 hv2 hr2 hk2 hb2 hc1 hf1 hown' hgrow P10 z10 b10 tt10 v10 H610 H710 r10 s10 T10
      obtain ⟨s, hs⟩ : ∃ s, s = joined (F1 (2 * xx)) (F1 (2 * xx + 1)) := ⟨_, rfl⟩
      have SEC := hid (fun (w' : World) (hw' : Below w11.heap.size w11 w') => sector_any (P11.out.below hw') hN8 xx (by omega))
      rw [← hs] at SEC
      have SE := hid hs
      have S256 := hid (show ∀ i, s i < 256 from fun i => by
        rw [hs]
        unfold joined
        split
        · exact P11.out.F256 _ _
        · exact P11.out.F256 _ _)
      obtain ⟨T3, hT3⟩ : ∃ F, F = ndT t.k xx s := ⟨_, rfl⟩
      have NT := hid (fun (w' : World) (hw' : Below w11.heap.size w11 w') => node_any t.k P11.out.k256 (xx : Int) ⟨by omega, by omega⟩ s S256.out w' (SW11.out.on hw'))
      rw [show HmM.tag (HmM.dl t.k) (BytM.rowB 78 [BytM.dig 8 (TgP.bits (xx : Int)), ls 64 s]) = T3 by rw [hT3]; rfl] at NT
      have T3E := hid hT3
      have T3256 := hid (show ∀ i, T3 i < 256 from fun i => by rw [hT3]; exact HmM.tag_256 _ _ i)
      have kr := hid (ptR_key P11.out.blk)
      have bzl11 := World.block_lt_of_cell? _ _ z11.out
      have ggl11 := P11.out.lt.1
      clear hs hT3
      refine wpi_region_tail (C := fun w' => Below w11.heap.size w11 w') 10 (by kernel_rfl) (by kernel_rfl) (by rintro ⟨_, _, h⟩; exact h) (by kernel_rfl) (by kernel_rfl) (Below.refl _ _).drew ?_
      simp only [List.take_succ_cons, List.take_zero, List.drop_succ_cons, List.drop_zero]
      apply wpK_val
      · rfl
      · intro w' hw'
        go_simp
        first | exact rfl | exact ⟨rfl, hw'⟩
      simp only [Act.put, List.setIfInBounds_toArray, List.set_cons_succ, List.set_cons_zero]
      apply wpK_val
      · rfl
      · intro w' hw'
        have hcell := (hw'.cell (p := ⟨bz, 0, none⟩) bzl11).trans z11.out
        go_simp
        first | exact rfl | exact ⟨rfl, hw'⟩
      simp only [Act.put, List.setIfInBounds_toArray, List.set_cons_succ, List.set_cons_zero]
      apply wpK_val
      · rfl
      · intro w' hw'
        go_simp
        first | exact rfl | exact ⟨rfl, hw'⟩
      simp only [Act.put, List.setIfInBounds_toArray, List.set_cons_succ, List.set_cons_zero]
      apply wpK_val
      · rfl
      · intro w' hw'
        go_simp
        first | exact rfl | exact ⟨rfl, hw'⟩
      simp only [Act.put, List.setIfInBounds_toArray, List.set_cons_succ, List.set_cons_zero]
      apply kldA tK
      · rfl
      · rfl
      · exact fun w' hw' => fun q v hq => (hw'.cell (p := ⟨g, 0 + q, none⟩) ggl11).trans (kr.out q v hq)
      simp only [Act.put, List.setIfInBounds_toArray, List.set_cons_succ, List.set_cons_zero]
      apply wpK_val
      · rfl
      · intro w' hw'
        go_simp
        first | exact rfl | exact ⟨rfl, hw'⟩
      simp only [Act.put, List.setIfInBounds_toArray, List.set_cons_succ, List.set_cons_zero]
      apply wpK_val
      · rfl
      · intro w' hw'
        have hcell := (hw'.cell (p := ⟨bz, 0, none⟩) bzl11).trans z11.out
        go_simp
        first | exact rfl | exact ⟨rfl, hw'⟩
      simp only [Act.put, List.setIfInBounds_toArray, List.set_cons_succ, List.set_cons_zero]
      apply wpK_val
      · rfl
      · intro w' hw'
        go_simp
        first | exact rfl | exact ⟨rfl, hw'⟩
      simp only [Act.put, List.setIfInBounds_toArray, List.set_cons_succ, List.set_cons_zero]
      apply wpK_val
      · rfl
      · intro w' hw'
        go_simp
        exact (SEC.out w' hw').mono fun e w5 h => ⟨h.1, hw'.trans (h.2.mono hw'.size)⟩
      simp only [Act.put, List.setIfInBounds_toArray, List.set_cons_succ, List.set_cons_zero]
      apply wpK_val
      · rfl
      · intro w' hw'
        go_simp
        exact (NT.out w' hw').mono fun e w5 h => ⟨h.1, hw'.trans (h.2.mono hw'.size)⟩
      simp only [Act.put, List.setIfInBounds_toArray, List.set_cons_succ, List.set_cons_zero]
      refine wpK_nil fun w12 h12' => ?_
      have H12 := hid h12'
      have b12 := b11.out.below h12' b11.out.lt
      have t12 := hid (t11.out.below h12' t11.out.lt)
      have c12 := b12.cell 0
      have f12 := b12.frozen 0
      have t13 := t12.out.setCell_other (p := ⟨bb, 0, none⟩) (by show bb ≠ bt; omega) (.int .i64 (xx : Nat))
      clear h12' NT SEC kr t12
      go_wp2_with ((with_reducible apply stA tT); rfl; rfl; exact t13)
      have TF : Turn (fun q => q = bt ∨ q = bb) w11 ((w12.setCell ⟨bb, 0, none⟩ (.int .i64 (xx : Nat))).setRow bt (ar 32 T3)) :=
        ((Turn.of_new (S := fun q => q = bt ∨ q = bb) H12.out).trans (Turn.setCell (S := fun q => q = bt ∨ q = bb) w12 ⟨bb, 0, none⟩ _ (.inr rfl)) fun _ e => .inl e).trans (Turn.setRow (S := fun q => q = bt ∨ q = bb) _ _ _ (.inl rfl)) fun _ e => .inl e
      have bE : Blk ((w12.setCell ⟨bb, 0, none⟩ (.int .i64 (xx : Nat))).setRow bt (ar 32 T3)) bb 3 #[.int .i64 (xx : Nat)] := (b12.setCell_same 0 (.int .i64 (xx : Nat))).setRow_other (by omega) _
      have tE := t13.setRow_same (ar 32 T3)
      generalize World.setRow _ bt _ = wE at TF bE tE ⊢
      have TG := TW11.out.trans (TF.mono (T := Ts gl bt bb b9 b6 b7 w5.heap.size) fun q e => e.elim (fun e => .inr (.inl e)) fun e => .inr (.inr (.inl e))) fun _ e => .inl e
      have hb5 : b9 < w5.heap.size := g95.out.lt
      have hKF := keepsFrom_turn (B := w5.heap.size) TF (by
        rintro q (rfl | rfl)
        · exact blk_cells t11.out
        · exact blk_cells b11.out)
      refine ⟨K11.out.trans hKF, TG, ⟨⟨xx, T3, F1, _, P11.out.turn TF (by omega) (by omega), tE, bE, Blk.turn V11.out TF (by omega), ?_, by omega, T3256.out, ?_⟩, H611.out.turn TF (by omega), H711.out.turn TF (by omega)⟩, HT2.out.trans TG fun _ e => .inl e⟩
      · have := row_turn R11.out TF fun q e e2 => by
          have h1 := (World.ownsRow.lt R11.out q e).1
          have h2 := g95.out.lt
          have h3 := gt5.out.lt
          have h4 := gi5.out.lt
          rcases e2 with e2 | e2 <;> omega
        rw [List.length_append, List.length_singleton, List.map_append, List.map_cons, List.map_nil, ← XE.out]
        exact this
      · intro e
        have h1 := SN.out e
        obtain ⟨q1, q2, q3, q4⟩ := IMP.out h1.1
        have hi : pre.length < t.h := by rw [HT.out]; exact hlt2
        have hx : xx = bn t.n leaf (pre.length + 1) := by rw [XE.out, h1.2, HNn.out, NH.out]; rfl
        have hpb := bn_pos HLF.out (show pre.length ≤ t.h by omega)
        rw [List.length_append, List.length_singleton]
        have hW : ∀ q j, q < N → j < 32 → F1 q j = stW t (t.set leaf f) leaf (pre.length + 1) q j := fun q j hq hj => by
          rw [F1E.out, stW_succ hpb, ← q1]
          unfold upF
          by_cases e3 : q = b
          · rw [if_pos e3, if_pos e3, q2, e3]
          · rw [if_neg e3, if_neg e3]; exact q3 q j hq hj
        refine ⟨hx, ?_, hW, fun m hm => ?_⟩
        · rw [T3E.out, SE.out, hx]
          refine set_node HLF.out hi (fun j hj => ?_) fun j hj => ?_
          · rw [← hx, hW _ _ (by omega) hj, stW_kid HLF.out hi (by rw [← hx]; omega)]
          · rw [← hx, hW _ _ (by omega) hj, stW_kid HLF.out hi (by rw [← hx]; omega)]
        · rcases Nat.lt_or_ge m pre.length with e3 | e3
          · exact q4 m e3
          · obtain rfl : m = pre.length := by omega
            rw [← q1, ← q2, eqA_ext (f' := F b) fun j hj => by rw [q3 b j hbN hj, q1, stW_at HLF.out (by omega)]]
            exact B1.out
    · skip
      refine wpi_region_tail (C := fun w' => Below W.heap.size W w') 9 (by kernel_rfl) (by kernel_rfl) (by rintro ⟨_, _, h⟩; exact h) (by kernel_rfl) (by kernel_rfl) (Below.refl _ _).drew ?_
      simp only [List.take_succ_cons, List.take_zero, List.drop_succ_cons, List.drop_zero]
      apply wpK_val
      · rfl
      · intro w' hw'
        have hcell := (hw'.cell (p := ⟨bz, 0, none⟩) bzl).trans cz.out
        go_simp
        first | exact rfl | exact ⟨rfl, hw'⟩
      simp only [Act.put, List.setIfInBounds_toArray, List.set_cons_succ, List.set_cons_zero]
      apply wpK_val
      · rfl
      · intro w' hw'
        go_simp
        first | exact rfl | exact ⟨rfl, hw'⟩
      simp only [Act.put, List.setIfInBounds_toArray, List.set_cons_succ, List.set_cons_zero]
      apply wpK_val
      · rfl
      · intro w' hw'
        go_simp
        first | exact rfl | exact ⟨rfl, hw'⟩
      simp only [Act.put, List.setIfInBounds_toArray, List.set_cons_succ, List.set_cons_zero]
      apply wpK_val
      · rfl
      · intro w' hw'
        have hcell := (hw'.cell (p := ⟨g, 32, none⟩) ggl).trans cg.out
        go_simp
        first | exact rfl | exact ⟨rfl, hw'⟩
      simp only [Act.put, List.setIfInBounds_toArray, List.set_cons_succ, List.set_cons_zero]
      apply wpK_val
      · rfl
      · intro w' hw'
        have hcell := (hw'.cell (p := ⟨bb, 0, none⟩) bbl).trans cb.out
        go_simp
        first | exact rfl | exact ⟨rfl, hw'⟩
      simp only [Act.put, List.setIfInBounds_toArray, List.set_cons_succ, List.set_cons_zero]
      apply wpK_val
      · rfl
      · intro w' hw'
        have l1 : b < N := hbN
        go_simp
        first | exact rfl | exact ⟨rfl, hw'⟩
      simp only [Act.put, List.setIfInBounds_toArray, List.set_cons_succ, List.set_cons_zero]
      apply kldA tT
      · rfl
      · rfl
      · exact fun w' hw' => fun q v hq => (hw'.cell (p := ⟨gl, b * 32 + q, none⟩) gll).trans (R1.out q v hq)
      simp only [Act.put, List.setIfInBounds_toArray, List.set_cons_succ, List.set_cons_zero]
      apply kldA tT
      · rfl
      · rfl
      · exact fun w' hw' => (ht.out.below hw' btl).head
      simp only [Act.put, List.setIfInBounds_toArray, List.set_cons_succ, List.set_cons_zero]
      apply keqU true uT eqgT
      · rfl
      · rfl
      · rfl
      · exact (by rw [B1.out])
      simp only [Act.put, List.setIfInBounds_toArray, List.set_cons_succ, List.set_cons_zero]
      refine wpK_nil fun w8 h8 => ?_
      have H8 := hid h8
      clear h8
      have v8 := Blk.below HV.out H8.out b9l
      have c9' := v8.cell 0
      have r6 := H6.out.below H8.out b6l
      have r7 := H7.out.below H8.out b7l
      have c6 := r6.cell 0
      have f6 := r6.frozen 0
      have r76 := r7.setCell_other (p := ⟨b6, 0, none⟩) (by show b6 ≠ b7; omega) (.slice A9 m9 c9)
      have c7 := r76.cell 0
      have f7 := r76.frozen 0
      go_wp2_with fail
      gi_wp2
      have TF : Turn (fun q => q = b6 ∨ q = b7) W ((w8.setCell ⟨b6, 0, none⟩ (.slice A9 m9 c9)).setCell ⟨b7, 0, none⟩ (.int .i64 0)) :=
        ((Turn.of_new (S := fun q => q = b6 ∨ q = b7) H8.out).trans (Turn.setCell (S := fun q => q = b6 ∨ q = b7) w8 ⟨b6, 0, none⟩ _ (.inl rfl)) fun _ e => .inl e).trans (Turn.setCell (S := fun q => q = b6 ∨ q = b7) _ ⟨b7, 0, none⟩ _ (.inr rfl)) fun _ e => .inl e
      have h6E : Boxed ((w8.setCell ⟨b6, 0, none⟩ (.slice A9 m9 c9)).setCell ⟨b7, 0, none⟩ (.int .i64 0)) b6 39 (.slice A9 m9 c9) := (r6.setCell_same 0 _).setCell_other (p := ⟨b7, 0, none⟩) (by show b7 ≠ b6; omega) _
      have h7E := r76.setCell_same 0 (.int .i64 0)
      generalize World.setCell (World.setCell w8 _ _) _ _ = wE at TF h6E h7E ⊢
      have hb5 : b7 < w5.heap.size := g75.out.lt
      refine ⟨keepsFrom_turn TF (by
        rintro q (rfl | rfl)
        · exact blk_cells H6.out
        · exact blk_cells H7.out), ⟨rfl, F, _, vals pre, HPW.out.turn TF (by omega) (by omega), h6E, h7E, ?_, ?_⟩, HT2.out.trans TF fun q e => .inl (e.elim (fun e => .inr (.inr (.inr (.inr (.inl e))))) fun e => .inr (.inr (.inr (.inr (.inr (.inl e))))))⟩
      · have h1 := row_turn HR.out TF fun q e e2 => by
          have h1 := (World.ownsRow.lt HR.out q e).1
          rcases e2 with e2 | e2 <;> omega
        have h2 := row_low h1 (B' := w.heap.size) B5.out.size
        unfold OwnI
        rw [vals, List.length_map, List.map_map]
        exact h2
      · intro e
        have h1 := SN.out e
        obtain ⟨q1, q2, q3, q4⟩ := IMP.out h1.1
        have hi : pre.length < t.h := by rw [HT.out]; exact hlt2
        have hE : eqA 32 (t.tg (bn t.n leaf pre.length)) ((t.set leaf f).tg (bn t.n leaf pre.length)) = true := by
          rw [← q1, ← q2, eqA_ext (f' := F b) fun j hj => by rw [q3 b j hbN hj, q1, stW_at HLF.out (by omega)]]
          exact B1.out
        refine ⟨?_, fun q j hq hj => by rw [q3 q j hq hj]; exact stW_same HLF.out hE q j hj⟩
        rw [chg_part HLF.out (by omega) q4 fun _ => hE, HT.out]
        exact h1.1.symm
  case done =>
    rintro D ys W hD hys ⟨⟨⟨b, T, F, v, hP, ht, hb, hv, hrow, hbN, hT256, himp⟩, hk6, hk7⟩, hT⟩ hK
    have hlen : ys.length = h := by
      have := congrArg List.length hys
      rwa [List.length_map, pthL_length] at this
    obtain ⟨A9, m9, c9, rfl⟩ := row_slice hrow
    have IMP := hid (himp (by rw [hys, hlen, List.take_of_length_le (by rw [pthL_length]; omega)]))
    rw [hlen] at IMP
    have HPW := hid hP
    have cz := hid ((gz5.out.turn hT (by unfold Ts; omega)).cell 0)
    have cg := hid hP.c
    have cb := hid (hb.cell 0)
    have ht := hid ht
    have HV := hid hv
    have HR := hid hrow
    have H6 := hid hk6
    have H7 := hid hk7
    have TT := hid hT256
    have HT2 := hid hT
    have HK := hid hK
    have bzl := World.block_lt_of_cell? _ _ cz.out
    have ggl := hP.lt.1
    have bbl := hb.lt
    have btl := ht.out.lt
    have YS := hid hys
    have hb95 : b9 < w5.heap.size := g95.out.lt
    have hDl := (Array.getElem?_eq_some_iff.1 hK).1
    clear hP hb hv hrow himp hk6 hk7 hT hT256 hK hys
    gi_upto_region 13 with fail
    refine wpIn_wide.2 ?_
    refine wp_region_tail (C := fun w' => Below W.heap.size W w') 7 (by kernel_rfl) (by kernel_rfl) (by kernel_rfl) (Below.refl _ _).drew ?_
    simp only [List.take_succ_cons, List.take_zero, List.drop_succ_cons, List.drop_zero]
    apply wpK_val
    · rfl
    · intro w' hw'
      have hcell := (hw'.cell (p := ⟨bz, 0, none⟩) bzl).trans cz.out
      go_simp
      first | exact rfl | exact ⟨rfl, hw'⟩
    simp only [Act.put, List.setIfInBounds_toArray, List.set_cons_succ, List.set_cons_zero]
    apply wpK_val
    · rfl
    · intro w' hw'
      go_simp
      first | exact rfl | exact ⟨rfl, hw'⟩
    simp only [Act.put, List.setIfInBounds_toArray, List.set_cons_succ, List.set_cons_zero]
    apply wpK_val
    · rfl
    · intro w' hw'
      go_simp
      first | exact rfl | exact ⟨rfl, hw'⟩
    simp only [Act.put, List.setIfInBounds_toArray, List.set_cons_succ, List.set_cons_zero]
    apply wpK_val
    · rfl
    · intro w' hw'
      have hcell := (hw'.cell (p := ⟨g, 32, none⟩) ggl).trans cg.out
      go_simp
      first | exact rfl | exact ⟨rfl, hw'⟩
    simp only [Act.put, List.setIfInBounds_toArray, List.set_cons_succ, List.set_cons_zero]
    apply wpK_val
    · rfl
    · intro w' hw'
      have hcell := (hw'.cell (p := ⟨bb, 0, none⟩) bbl).trans cb.out
      go_simp
      first | exact rfl | exact ⟨rfl, hw'⟩
    simp only [Act.put, List.setIfInBounds_toArray, List.set_cons_succ, List.set_cons_zero]
    apply kldA tT
    · rfl
    · rfl
    · exact fun w' hw' => (ht.out.below hw' btl).head
    simp only [Act.put, List.setIfInBounds_toArray, List.set_cons_succ, List.set_cons_zero]
    apply wpK_val
    · rfl
    · intro w' hw'
      have l1 : b < N := hbN
      go_simp
      first | exact rfl | exact ⟨rfl, hw'⟩
    simp only [Act.put, List.setIfInBounds_toArray, List.set_cons_succ, List.set_cons_zero]
    refine wpK_nil fun w9 h9 => ?_
    have P9 := hid (HPW.out.below h9)
    have W9 := hid h9
    clear h9 cg cb cz
    go_wp2_with ((with_reducible apply wstF (i := b) tT (by omega)); rfl; rfl; rfl; exact P9.out.own; exact hbN; intro w10 o10 t10)
    have T10 := hid (show Turn (fun q => q = gl) W w10 from (Turn.of_new (S := fun q => q = gl) W9.out).trans t10 fun _ e => .inl e)
    have P10 := hid (show PT w10 g gl cl t.k N (upF F b T) from ⟨P9.out.blk.turn t10 HG.out, o10, P9.out.k256, fun i j => by
        unfold upF
        split
        · exact TT.out j
        · exact P9.out.F256 i j⟩)
    have v10 := Blk.turn HV.out T10.out (by omega)
    have r6 := H6.out.turn T10.out (by omega)
    have r7 := H7.out.turn T10.out (by omega)
    have c9' := v10.cell 0
    have c6 := r6.cell 0
    have f6 := r6.frozen 0
    have r76 := r7.setCell_other (p := ⟨b6, 0, none⟩) (by show b6 ≠ b7; omega) (.slice A9 m9 c9)
    have c7 := r76.cell 0
    have f7 := r76.frozen 0
    have R6 := hid r6
    have R76 := hid r76
    clear v10 r6 r7 r76 o10 t10 P9 W9
    gi_wp2
    have h6E : Boxed ((w10.setCell ⟨b6, 0, none⟩ (.slice A9 m9 c9)).setCell ⟨b7, 0, none⟩ (.int .i64 0)) b6 39 (.slice A9 m9 c9) := (R6.out.setCell_same 0 _).setCell_other (p := ⟨b7, 0, none⟩) (by show b7 ≠ b6; omega) _
    have h7E : Boxed ((w10.setCell ⟨b6, 0, none⟩ (.slice A9 m9 c9)).setCell ⟨b7, 0, none⟩ (.int .i64 0)) b7 30 (.int .i64 0) := R76.out.setCell_same 0 (.int .i64 0)
    have TE : Turn (fun q => q = b6 ∨ q = b7) w10 ((w10.setCell ⟨b6, 0, none⟩ (.slice A9 m9 c9)).setCell ⟨b7, 0, none⟩ (.int .i64 0)) :=
      (Turn.setCell (S := fun q => q = b6 ∨ q = b7) w10 ⟨b6, 0, none⟩ _ (.inl rfl)).trans (Turn.setCell (S := fun q => q = b6 ∨ q = b7) _ ⟨b7, 0, none⟩ _ (.inr rfl)) fun _ e => .inl e
    generalize World.setCell (World.setCell w10 _ _) _ _ = wE at h6E h7E TE ⊢
    have hDg : ¬ D = gl := by omega
    have HKE : wE.heap[D]? = some (.deferred (some [])) := (TE.block D (by have := T10.out.size; omega) (by omega)).trans ((T10.out.block D hDl hDg).trans HK.out)
    have TWE : Turn (fun q => q = gl ∨ q = b6 ∨ q = b7) W wE := (T10.out.mono fun q e => .inl e).trans (TE.mono (T := fun q => q = gl ∨ q = b6 ∨ q = b7) fun q e => .inr e) fun _ e => .inl e
    have hRE := row_turn HR.out TWE fun q e e2 => by
      have h1 := (World.ownsRow.lt HR.out q e).1
      have h2 := g75.out.lt
      rcases e2 with e2 | e2 | e2 <;> omega
    have hrE2 := ownsRow_putObj (row_low hRE (B' := w.heap.size) B5.out.size) (.deferred none) HKE rfl
    have TWw : Turn (fun q => q = gl) w wE := (HB.out W HT2.out).trans TWE fun q e => by have := B5.out.size; rcases e with e | e | e <;> omega
    have hwD : w.heap.size ≤ D := Nat.le_trans B5.out.size hD
    refine ⟨by simp, .inl ⟨_, _, rfl, run_takeDeferred HKE, ?_⟩⟩
    refine ⟨_, results_cell2 rfl _ _ b6 b7 A9 m9 c9 0 rfl rfl (h6E.kept (grownBy_putObj' _ D _) (by simp; omega)).cell (h7E.kept (grownBy_putObj' _ D _) (by simp; omega)).cell, _, rfl, ?_, ?_, ?_⟩
    · obtain ⟨q1, q2, q3, q4⟩ := IMP.out
      rw [chg_part HLF.out (i := t.h) (Nat.le_refl _) (by rw [HT.out]; exact q4) fun h => by omega, List.take_of_length_le (by rw [pthL_length]; omega), HT.out, ← YS.out]
      unfold OwnI
      rw [vals, List.length_map, List.map_map]
      exact hrE2
    · obtain ⟨q1, q2, q3, q4⟩ := IMP.out
      refine ((P10.out.turn TE (by omega) (by omega)).ext (fun q j hq hj => ?_) (tagsFrom256 U256.out 1)).turn (turn_putObj (T := fun k => k = D) _ D _ rfl) (by omega) (by omega)
      rw [← stW_all HLF.out q, stW_succ (bn_pos HLF.out (Nat.le_refl _)), HT.out, ← q1]
      unfold upF
      by_cases e3 : q = b
      · rw [if_pos e3, if_pos e3, q2, e3]
      · rw [if_neg e3, if_neg e3]; exact q3 q j hq hj
    · exact TWw.trans (turn_putObj (T := fun k => k = D) _ D _ rfl) fun k e => .inr (by omega)
  case stop =>
    rintro D c pre W hD hSp ⟨⟨rfl, F, v, l, q1, q2, q3, q4, q5⟩, hT⟩ hK
    obtain ⟨q6, q7⟩ := q5 hSp.1
    obtain ⟨A9, m9, c9, rfl⟩ := row_slice q4
    have hDg : ¬ gl = D := by omega
    have hwD : w.heap.size ≤ D := Nat.le_trans B5.out.size hD
    have h5b : b7 < w5.heap.size := g75.out.lt
    gi_wp2
    refine ⟨by simp, .inl ⟨_, _, rfl, run_takeDeferred hK, ?_⟩⟩
    refine ⟨_, results_cell2 rfl _ _ b6 b7 A9 m9 c9 0 rfl rfl (q2.kept (grownBy_putObj' _ D _) (by simp; omega)).cell ((show Boxed W b7 _ _ from q3).kept (grownBy_putObj' _ D _) (by simp; omega)).cell, _, rfl, ?_, ?_, ?_⟩
    · rw [q6]
      exact ownsRow_putObj q4 _ hK rfl
    · exact (q1.ext q7 (tagsFrom256 U256.out 1)).turn (turn_putObj (T := fun k => k = D) _ D _ rfl) (by omega) hDg
    · exact (HB.out W hT).trans (turn_putObj (T := fun k => k = D) _ D _ rfl) fun k e => .inr (by omega)
end TrM
end Go.Proofs.YtdmnhpgafbcehaaDoor
namespace Go.Proofs.YtdmnhpgafbcehaaDoor
theorem ShaM.passes_block {s : ShaM.S8} {k r : List Nat} (h : k.length = 64) : ShaM.passes s (k ++ r) = ShaM.passes (ShaM.pass s (ShaM.at' k)) r := by
  rw [ShaM.passes_append 1 (by omega), ShaM.passes_long (l := k) (by omega), ShaM.passes_short (l := k.drop 64) (by rw [List.length_drop]; omega)]
set_option maxRecDepth 100000
end Go.Proofs.YtdmnhpgafbcehaaDoor
