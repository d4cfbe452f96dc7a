/-
  The document's member: Mark.
  A member in plain words: what each call tells, and what it leaves.
  The document's member, by what is seen and durable: its calls.
  What is wanted of the program's member: the contracts of its calls, over whatever it lays in memory; a member of the program's beside one of the document's.
  The document's member's calls, by what is seen and durable.
  The law's looks: the program's member and the document's tell the same of a sector.
  The law's full; a member of the program's alone; reads.
  A region in the text's order, walked as one that draws it (a class of worlds is handed on; guards are read off).
  The law's reads, awake.
  The law's awake.
  Maps of sectors by their places: a block that reads as a function of the place; looked up, written, struck out, cloned.
  Contracts of what the program's member is made of: a sector put into an image, an image's clone, whether a sector is there, the closures.
  The program's member in memory; the calls that turn nothing of it, or one cell.
-/
import Derived.Test.YteglhalninlapaaMrg2
import Derived.MapKept
import Derived.Laws.Externs
set_option linter.unusedVariables false
set_option linter.unusedSimpArgs false
set_option maxRecDepth 100000
namespace Go.Proofs.Yteglhalninlapaa
open Go.ChangeShapes Go.WideShapes Go.ChangeAt Go.RowKit
attribute [local go_sem] Gives GivesE
namespace MbP
open MbM
theorem undSl : Try.prog.underlying 63 = some (.slice 62) := Try.underlying63
def markL (s : Ls) : Ls := if 64 ≤ s.marks.length then s else { s with marks := s.marks ++ [s.dur ++ s.log] }
def markE (s : Ls) : Int := if 64 ≤ s.marks.length then 7 else 0
def markN (s : Ls) : Int := if 64 ≤ s.marks.length then 0 else s.marks.length
/-- A slice of slices, the last of which is a list d. -/
def spM (S : Nat → Prop) (xs : List SlE) (d : List Pt) : Sp := ⟨fun v => ∃ (A : Option Addr) (c : Nat), v = .slice A (xs.length + 1) c,
  fun v w => ∃ (A : Option Addr) (c : Nat), v = .slice A (xs.length + 1) c ∧ ∃ (A' : Option Addr) (c' : Nat), Sli 1 slE S w A (xs ++ [(A', d.length, c')]) (xs.length + 1) c ∧ Sli 65 atL S w A' d d.length c', .slice none (xs.length + 1) 0⟩
theorem spM_ok (S : Nat → Prop) (xs : List SlE) (d : List Pt) : (spM S xs d).ok := ⟨⟨none, 0, rfl⟩, fun v w1 w2 ⟨A, c, h1, A', c', h2, h3⟩ hb => ⟨A, c, h1, A', c', h2.turn (Turn.of_new (S := fun _ => False) hb) fun _ _ _ e => e, h3.turn (Turn.of_new (S := fun _ => False) hb) fun _ _ _ e => e⟩⟩
theorem Rm.setMarks {w : World} {g : Nat} {I : Nat → Prop} {s : Ls} {A1 A2 A3 A : Option Addr} {c1 c2 c3 c : Nat} {ms : List (List Pt)} (h : Rm w g I s A1 c1 A2 c2 A3 c3)
    (hm : ∃ xs : List SlE, Sli 1 slE I w A xs ms.length c ∧ ∀ (i : Nat) (l : List Pt), ms[i]? = some l → ∃ A c, xs[i]? = some (A, l.length, c) ∧ Sli 65 atL I w A l l.length c) :
    Rm (w.setCell ⟨g, 3, none⟩ (.slice A ms.length c)) g I { s with marks := ms } A1 c1 A2 c2 A c := h.keep rfl h.dur h.log hm
set_option maxHeartbeats 800000 in
set_option maxRecDepth 100000 in
theorem mark_any (g : Nat) (I : Nat → Prop) (s : Ls) (hs : s.dur.length + s.log.length ≤ 400000) (w : World) (h : RM w g I s) :
    Calls Try.prog 37 #[.pointer (some ⟨g, 0, none⟩)] w fun e w' => e = .returned (.tuple #[.int .i64 (markN s), .int .i64 (markE s)]) ∧ RMo w g I (markL s) w' := by
  have HR := hid h
  obtain ⟨A1, c1, A2, c2, A3, c3, h⟩ := h
  have H1 := hid h
  have hgl := h.blk.lt
  have HS := hid hs
  have p3 : w.cell? ⟨g, 3, none⟩ = some (.slice A3 s.marks.length c3) := h.blk.cell 3
  clear h hs
  unfold markL markE markN
  by_cases hm : 64 ≤ s.marks.length
  · rw [if_pos hm, if_pos hm, if_pos hm]
    have t1 : (64 : Int) ≤ (s.marks.length : Int) := by omega
    clear hm
    go_enter Try.func37, Try.ntmps37
    go_wp2_with fail
    refine bodyPost_ret (results_tmp2 rfl _ _ _) rfl ?_
    exact ⟨rfl, RMo.same HR.out (Below.refl _ _)⟩
  · rw [if_neg hm, if_neg hm, if_neg hm]
    have t1 : decide ((64 : Int) ≤ (s.marks.length : Int)) = false := by simp; omega
    obtain ⟨xs, hxs, hxm⟩ := H1.out.marks
    obtain ⟨n, hn⟩ : ∃ n, n = s.marks.length := ⟨_, rfl⟩
    rw [← hn] at hxs p3 t1 hm ⊢
    have hxl : xs.length = n := hxs.len
    have hc3 : n ≤ c3 := hxs.cap
    have hcm : c3 ≤ 9223372036854775807 := by have := hxs.max; unfold maxLen at this; exact this
    have HXS := hid hxs
    have HXM := hid hxm
    have HXL := hid hxl
    have HN := hid hn
    have hm2 : n ≤ 64 := by omega
    clear hxs hxm hxl hn hm
    go_enter Try.func37, Try.ntmps37
    go_upto_region 3 with fail
    obtain ⟨D, hD⟩ : ∃ D, D = s.dur ++ s.log := ⟨_, rfl⟩
    have HD := hid hD
    clear hD
    refine wp_region_y [some (.pointer (some ⟨g, 0, none⟩)), some (.pointer (some ⟨g, 0, none⟩)), some (.pointer (some ⟨g, 0, none⟩)), some (.pointer (some ⟨g, 3, none⟩)), some (.slice A3 n c3), some (.pointer (some ⟨g, 0, none⟩)), some (.pointer (some ⟨g, 0, none⟩)), some (.pointer (some ⟨g, 3, none⟩)), some (.slice A3 n c3), some (.int .i64 n), some (.pointer (some ⟨g, 0, none⟩)), some (.pointer (some ⟨g, 0, none⟩)), some (.pointer (some ⟨g, 3, none⟩)), some (.slice A3 n c3), some (.int .i64 n), some (.slice A3 n n),
        some (.pointer (some ⟨g, 0, none⟩)), some (.pointer (some ⟨g, 0, none⟩)), some (.pointer (some ⟨g, 1, none⟩)), some (.slice A1 s.dur.length c1), some (.pointer (some ⟨g, 0, none⟩)), some (.pointer (some ⟨g, 0, none⟩)), some (.pointer (some ⟨g, 2, none⟩)), some (.slice A2 s.log.length c2), none, none, none, some (.pointer (some ⟨g, 0, none⟩)), some (.pointer (some ⟨g, 3, none⟩))]
      [(24, spX 65 atL (fun b => w.heap.size ≤ b) D), (25, spM (fun b => w.heap.size ≤ b) [] D), (26, spM (fun b => w.heap.size ≤ b) xs D)] (fun y hy => by simp only [List.mem_cons, List.not_mem_nil, or_false] at hy; rcases hy with rfl | rfl | rfl <;> first | exact spX_ok _ _ _ _ | exact spM_ok _ _ _) 29 (by kernel_rfl) (by kernel_rfl) (by kernel_rfl) fun vs => ?_
    simp only [List.take_succ_cons, List.take_zero, List.drop_succ_cons, List.drop_zero]
    have CM := hid (show ∀ w', Below w.heap.size w w' → w'.cell? ⟨g, 3, none⟩ = some (.slice A3 n c3) from fun w' hC => by rw [HN.out]; exact (H1.out.below hC (Nat.le_refl _)).blk.cell 3)
    refine ⟨.inl ⟨rfl, fun dd w' hd hC hDs => ?_⟩, fun e => ?_⟩
    · go_simp
      first | exact ⟨rfl, hC, Below.refl _ _, trivial⟩ | exact ⟨rfl, Below.refl _ _, trivial⟩ | exact ⟨hC, Below.refl _ _, trivial⟩
    have e' : vs 0 = _ := e
    rw [e']
    clear e e'
    simp only [Act.put, List.setIfInBounds_toArray, List.set_cons_succ, List.set_cons_zero]
    refine ⟨.inl ⟨rfl, fun dd w' hd hC hDs => ?_⟩, fun e => ?_⟩
    · go_simp
      first | exact ⟨rfl, hC, Below.refl _ _, trivial⟩ | exact ⟨rfl, Below.refl _ _, trivial⟩ | exact ⟨hC, Below.refl _ _, trivial⟩
    have e' : vs 1 = _ := e
    rw [e']
    clear e e'
    simp only [Act.put, List.setIfInBounds_toArray, List.set_cons_succ, List.set_cons_zero]
    refine ⟨.inl ⟨rfl, fun dd w' hd hC hDs => ?_⟩, fun e => ?_⟩
    · go_simp
      first | exact ⟨rfl, hC, Below.refl _ _, trivial⟩ | exact ⟨rfl, Below.refl _ _, trivial⟩ | exact ⟨hC, Below.refl _ _, trivial⟩
    have e' : vs 2 = _ := e
    rw [e']
    clear e e'
    simp only [Act.put, List.setIfInBounds_toArray, List.set_cons_succ, List.set_cons_zero]
    refine ⟨.inl ⟨rfl, fun dd w' hd hC hDs => ?_⟩, fun e => ?_⟩
    · go_simp
      first | exact ⟨rfl, hC, Below.refl _ _, trivial⟩ | exact ⟨rfl, Below.refl _ _, trivial⟩ | exact ⟨hC, Below.refl _ _, trivial⟩
    have e' : vs 3 = _ := e
    rw [e']
    clear e e'
    simp only [Act.put, List.setIfInBounds_toArray, List.set_cons_succ, List.set_cons_zero]
    refine ⟨.inl ⟨rfl, fun dd w' hd hC hDs => ?_⟩, fun e => ?_⟩
    · have h1 : w'.cell? ⟨g, 3, none⟩ = some (.slice A3 n c3) := CM.out w' hC
      go_simp
      first | exact ⟨rfl, hC, Below.refl _ _, trivial⟩ | exact ⟨rfl, Below.refl _ _, trivial⟩ | exact ⟨hC, Below.refl _ _, trivial⟩
    have e' : vs 4 = _ := e
    rw [e']
    clear e e'
    simp only [Act.put, List.setIfInBounds_toArray, List.set_cons_succ, List.set_cons_zero]
    refine ⟨.inl ⟨rfl, fun dd w' hd hC hDs => ?_⟩, fun e => ?_⟩
    · go_simp
      first | exact ⟨rfl, hC, Below.refl _ _, trivial⟩ | exact ⟨rfl, Below.refl _ _, trivial⟩ | exact ⟨hC, Below.refl _ _, trivial⟩
    have e' : vs 5 = _ := e
    rw [e']
    clear e e'
    simp only [Act.put, List.setIfInBounds_toArray, List.set_cons_succ, List.set_cons_zero]
    refine ⟨.inl ⟨rfl, fun dd w' hd hC hDs => ?_⟩, fun e => ?_⟩
    · go_simp
      first | exact ⟨rfl, hC, Below.refl _ _, trivial⟩ | exact ⟨rfl, Below.refl _ _, trivial⟩ | exact ⟨hC, Below.refl _ _, trivial⟩
    have e' : vs 6 = _ := e
    rw [e']
    clear e e'
    simp only [Act.put, List.setIfInBounds_toArray, List.set_cons_succ, List.set_cons_zero]
    refine ⟨.inl ⟨rfl, fun dd w' hd hC hDs => ?_⟩, fun e => ?_⟩
    · go_simp
      first | exact ⟨rfl, hC, Below.refl _ _, trivial⟩ | exact ⟨rfl, Below.refl _ _, trivial⟩ | exact ⟨hC, Below.refl _ _, trivial⟩
    have e' : vs 7 = _ := e
    rw [e']
    clear e e'
    simp only [Act.put, List.setIfInBounds_toArray, List.set_cons_succ, List.set_cons_zero]
    refine ⟨.inl ⟨rfl, fun dd w' hd hC hDs => ?_⟩, fun e => ?_⟩
    · have h1 : w'.cell? ⟨g, 3, none⟩ = some (.slice A3 n c3) := CM.out w' hC
      go_simp
      first | exact ⟨rfl, hC, Below.refl _ _, trivial⟩ | exact ⟨rfl, Below.refl _ _, trivial⟩ | exact ⟨hC, Below.refl _ _, trivial⟩
    have e' : vs 8 = _ := e
    rw [e']
    clear e e'
    simp only [Act.put, List.setIfInBounds_toArray, List.set_cons_succ, List.set_cons_zero]
    refine ⟨.inl ⟨rfl, fun dd w' hd hC hDs => ?_⟩, fun e => ?_⟩
    · go_simp
      first | exact ⟨rfl, hC, Below.refl _ _, trivial⟩ | exact ⟨rfl, Below.refl _ _, trivial⟩ | exact ⟨hC, Below.refl _ _, trivial⟩
    have e' : vs 9 = _ := e
    rw [e']
    clear e e'
    simp only [Act.put, List.setIfInBounds_toArray, List.set_cons_succ, List.set_cons_zero]
    refine ⟨.inl ⟨rfl, fun dd w' hd hC hDs => ?_⟩, fun e => ?_⟩
    · go_simp
      first | exact ⟨rfl, hC, Below.refl _ _, trivial⟩ | exact ⟨rfl, Below.refl _ _, trivial⟩ | exact ⟨hC, Below.refl _ _, trivial⟩
    have e' : vs 10 = _ := e
    rw [e']
    clear e e'
    simp only [Act.put, List.setIfInBounds_toArray, List.set_cons_succ, List.set_cons_zero]
    refine ⟨.inl ⟨rfl, fun dd w' hd hC hDs => ?_⟩, fun e => ?_⟩
    · go_simp
      first | exact ⟨rfl, hC, Below.refl _ _, trivial⟩ | exact ⟨rfl, Below.refl _ _, trivial⟩ | exact ⟨hC, Below.refl _ _, trivial⟩
    have e' : vs 11 = _ := e
    rw [e']
    clear e e'
    simp only [Act.put, List.setIfInBounds_toArray, List.set_cons_succ, List.set_cons_zero]
    refine ⟨.inl ⟨rfl, fun dd w' hd hC hDs => ?_⟩, fun e => ?_⟩
    · go_simp
      first | exact ⟨rfl, hC, Below.refl _ _, trivial⟩ | exact ⟨rfl, Below.refl _ _, trivial⟩ | exact ⟨hC, Below.refl _ _, trivial⟩
    have e' : vs 12 = _ := e
    rw [e']
    clear e e'
    simp only [Act.put, List.setIfInBounds_toArray, List.set_cons_succ, List.set_cons_zero]
    refine ⟨.inl ⟨rfl, fun dd w' hd hC hDs => ?_⟩, fun e => ?_⟩
    · have h1 : w'.cell? ⟨g, 3, none⟩ = some (.slice A3 n c3) := CM.out w' hC
      go_simp
      first | exact ⟨rfl, hC, Below.refl _ _, trivial⟩ | exact ⟨rfl, Below.refl _ _, trivial⟩ | exact ⟨hC, Below.refl _ _, trivial⟩
    have e' : vs 13 = _ := e
    rw [e']
    clear e e'
    simp only [Act.put, List.setIfInBounds_toArray, List.set_cons_succ, List.set_cons_zero]
    refine ⟨.inl ⟨rfl, fun dd w' hd hC hDs => ?_⟩, fun e => ?_⟩
    · go_simp
      first | exact ⟨rfl, hC, Below.refl _ _, trivial⟩ | exact ⟨rfl, Below.refl _ _, trivial⟩ | exact ⟨hC, Below.refl _ _, trivial⟩
    have e' : vs 14 = _ := e
    rw [e']
    clear e e'
    simp only [Act.put, List.setIfInBounds_toArray, List.set_cons_succ, List.set_cons_zero]
    refine ⟨.inl ⟨rfl, fun dd w' hd hC hDs => ?_⟩, fun e => ?_⟩
    · have h1 : (n : Int) ≤ (c3 : Int) := by omega
      go_simp
      first | exact ⟨rfl, hC, Below.refl _ _, trivial⟩ | exact ⟨rfl, Below.refl _ _, trivial⟩ | exact ⟨hC, Below.refl _ _, trivial⟩
    have e' : vs 15 = _ := e
    rw [e']
    clear e e'
    simp only [Act.put, List.setIfInBounds_toArray, List.set_cons_succ, List.set_cons_zero]
    refine ⟨.inl ⟨rfl, fun dd w' hd hC hDs => ?_⟩, fun e => ?_⟩
    · go_simp
      first | exact ⟨rfl, hC, Below.refl _ _, trivial⟩ | exact ⟨rfl, Below.refl _ _, trivial⟩ | exact ⟨hC, Below.refl _ _, trivial⟩
    have e' : vs 16 = _ := e
    rw [e']
    clear e e'
    simp only [Act.put, List.setIfInBounds_toArray, List.set_cons_succ, List.set_cons_zero]
    refine ⟨.inl ⟨rfl, fun dd w' hd hC hDs => ?_⟩, fun e => ?_⟩
    · go_simp
      first | exact ⟨rfl, hC, Below.refl _ _, trivial⟩ | exact ⟨rfl, Below.refl _ _, trivial⟩ | exact ⟨hC, Below.refl _ _, trivial⟩
    have e' : vs 17 = _ := e
    rw [e']
    clear e e'
    simp only [Act.put, List.setIfInBounds_toArray, List.set_cons_succ, List.set_cons_zero]
    refine ⟨.inl ⟨rfl, fun dd w' hd hC hDs => ?_⟩, fun e => ?_⟩
    · go_simp
      first | exact ⟨rfl, hC, Below.refl _ _, trivial⟩ | exact ⟨rfl, Below.refl _ _, trivial⟩ | exact ⟨hC, Below.refl _ _, trivial⟩
    have e' : vs 18 = _ := e
    rw [e']
    clear e e'
    simp only [Act.put, List.setIfInBounds_toArray, List.set_cons_succ, List.set_cons_zero]
    refine ⟨.inl ⟨rfl, fun dd w' hd hC hDs => ?_⟩, fun e => ?_⟩
    · have h1 : w'.cell? ⟨g, 1, none⟩ = some (.slice A1 s.dur.length c1) := (H1.out.below hC (Nat.le_refl _)).blk.cell 1
      go_simp
      first | exact ⟨rfl, hC, Below.refl _ _, trivial⟩ | exact ⟨rfl, Below.refl _ _, trivial⟩ | exact ⟨hC, Below.refl _ _, trivial⟩
    have e' : vs 19 = _ := e
    rw [e']
    clear e e'
    simp only [Act.put, List.setIfInBounds_toArray, List.set_cons_succ, List.set_cons_zero]
    refine ⟨.inl ⟨rfl, fun dd w' hd hC hDs => ?_⟩, fun e => ?_⟩
    · go_simp
      first | exact ⟨rfl, hC, Below.refl _ _, trivial⟩ | exact ⟨rfl, Below.refl _ _, trivial⟩ | exact ⟨hC, Below.refl _ _, trivial⟩
    have e' : vs 20 = _ := e
    rw [e']
    clear e e'
    simp only [Act.put, List.setIfInBounds_toArray, List.set_cons_succ, List.set_cons_zero]
    refine ⟨.inl ⟨rfl, fun dd w' hd hC hDs => ?_⟩, fun e => ?_⟩
    · go_simp
      first | exact ⟨rfl, hC, Below.refl _ _, trivial⟩ | exact ⟨rfl, Below.refl _ _, trivial⟩ | exact ⟨hC, Below.refl _ _, trivial⟩
    have e' : vs 21 = _ := e
    rw [e']
    clear e e'
    simp only [Act.put, List.setIfInBounds_toArray, List.set_cons_succ, List.set_cons_zero]
    refine ⟨.inl ⟨rfl, fun dd w' hd hC hDs => ?_⟩, fun e => ?_⟩
    · go_simp
      first | exact ⟨rfl, hC, Below.refl _ _, trivial⟩ | exact ⟨rfl, Below.refl _ _, trivial⟩ | exact ⟨hC, Below.refl _ _, trivial⟩
    have e' : vs 22 = _ := e
    rw [e']
    clear e e'
    simp only [Act.put, List.setIfInBounds_toArray, List.set_cons_succ, List.set_cons_zero]
    refine ⟨.inl ⟨rfl, fun dd w' hd hC hDs => ?_⟩, fun e => ?_⟩
    · have h1 : w'.cell? ⟨g, 2, none⟩ = some (.slice A2 s.log.length c2) := (H1.out.below hC (Nat.le_refl _)).blk.cell 2
      go_simp
      first | exact ⟨rfl, hC, Below.refl _ _, trivial⟩ | exact ⟨rfl, Below.refl _ _, trivial⟩ | exact ⟨hC, Below.refl _ _, trivial⟩
    have e' : vs 23 = _ := e
    rw [e']
    clear e e'
    simp only [Act.put, List.setIfInBounds_toArray, List.set_cons_succ, List.set_cons_zero]
    refine ⟨.inl ⟨rfl, fun dd w' hd hC hDs => ?_⟩, fun e => ?_⟩
    · go_simp
      have hw := H1.out.below hC (Nat.le_refl _)
      refine (joined_any I I A1 A2 s.dur s.log _ _ c1 c2 (by have := HS.out; omega) w' hw.dur hw.log).mono ?_
      rintro e w3 ⟨v, rfl, o3, h3⟩
      rw [← HD.out] at o3
      obtain ⟨A, c, rfl, s3⟩ := o3.sli atL_len
      exact ⟨_, rfl, ⟨A, c, rfl⟩, hC.trans (h3.mono hC.size), h3, yD_some rfl ⟨A, c, rfl, s3.mono fun b hb => Nat.le_trans hC.size hb⟩⟩
    obtain ⟨A8, c8, e'⟩ : ∃ (A : Option Addr) (c : Nat), vs 24 = .slice A D.length c := e
    rw [e']
    have E8 := hid e'
    clear e'
    simp only [Act.put, List.setIfInBounds_toArray, List.set_cons_succ, List.set_cons_zero]
    refine ⟨.inl ⟨rfl, fun dd w' hd hC hDs => ?_⟩, fun e => ?_⟩
    · obtain ⟨A', c', f, sl⟩ := hDs 24 (by kernel_rfl)
      rw [E8.out] at f
      cases f
      have ha := (Below.refl w'.heap.size w').alloc (Nat.le_refl _) (.cells (slE (A8, D.length, c8)).toArray 62)
      exact gE_lit1 (x := ((A8, D.length, c8) : SlE)) eltSl undSl (by omega) rfl rfl ⟨⟨_, _, rfl⟩, hC.trans (ha.mono hC.size), ha, yD_some rfl ⟨_, _, rfl, A8, c8, sli_lit1 eltSl ((A8, D.length, c8) : SlE) w' hC.size, sl.turn (Turn.of_new (S := fun _ => False) ha) fun _ _ _ e => e⟩⟩
    obtain ⟨A9, c9, e'⟩ : ∃ (A : Option Addr) (c : Nat), vs 25 = .slice A 1 c := e
    rw [e']
    have E9 := hid e'
    clear e'
    simp only [Act.put, List.setIfInBounds_toArray, List.set_cons_succ, List.set_cons_zero]
    refine ⟨.inl ⟨rfl, fun dd w' hd hC hDs => ?_⟩, fun e => ?_⟩
    · obtain ⟨A', c', f, A5, c5, sl, sd⟩ := hDs 25 (by kernel_rfl)
      rw [E9.out] at f
      cases f
      have hfull : Sli 1 slE I w' A3 xs n n := by
        have h := HXS.out.turn (Turn.of_new (S := fun _ => False) hC) fun _ _ _ e => e
        refine ⟨h.len, Nat.le_refl _, by have := h.cap; have := h.max; omega, fun e => ⟨(h.none e).1, (h.none e).1⟩, h.lst⟩
      refine gE_full (m := [] ++ [((A5, D.length, c5) : SlE)]) eltSl undSl rfl rfl hfull sl (by show 0 < 1; omega) (by show n + 1 ≤ 1000000; omega) (by omega) fun A' c' w3 h1 h2 => ?_
      have h1' : Sli 1 slE (fun b => w.heap.size ≤ b) w3 A' (xs ++ [(A5, D.length, c5)]) (xs.length + 1) c' := by rw [HXL.out]; exact h1.mono fun b hb => Nat.le_trans hC.size hb
      exact ⟨⟨A', c', by rw [HXL.out]⟩, hC.trans (h2.mono hC.size), h2, yD_some rfl ⟨A', c', by rw [HXL.out], A5, c5, h1', sd.turn (Turn.of_new (S := fun _ => False) h2) fun _ _ _ e => e⟩⟩
    obtain ⟨A7, c7, e'⟩ : ∃ (A : Option Addr) (c : Nat), vs 26 = .slice A (n + 1) c := by have h := e; rw [← HXL.out]; exact h
    rw [e']
    have E7 := hid e'
    clear e e'
    simp only [Act.put, List.setIfInBounds_toArray, List.set_cons_succ, List.set_cons_zero]
    refine ⟨.inl ⟨rfl, fun dd w' hd hC hDs => ?_⟩, fun e => ?_⟩
    · go_simp
      first | exact ⟨rfl, hC, Below.refl _ _, trivial⟩ | exact ⟨rfl, Below.refl _ _, trivial⟩ | exact ⟨hC, Below.refl _ _, trivial⟩
    have e' : vs 27 = _ := e
    rw [e']
    clear e e'
    simp only [Act.put, List.setIfInBounds_toArray, List.set_cons_succ, List.set_cons_zero]
    refine ⟨.inl ⟨rfl, fun dd w' hd hC hDs => ?_⟩, fun e => ?_⟩
    · go_simp
      first | exact ⟨rfl, hC, Below.refl _ _, trivial⟩ | exact ⟨rfl, Below.refl _ _, trivial⟩ | exact ⟨hC, Below.refl _ _, trivial⟩
    have e' : vs 28 = _ := e
    rw [e']
    clear e e'
    simp only [Act.put, List.setIfInBounds_toArray, List.set_cons_succ, List.set_cons_zero]
    intro dd w3 hall hC3 hDs
    obtain ⟨A', c', f, A5, c5, sl, sd⟩ := hDs 26 (by omega)
    rw [E7.out, HXL.out] at f
    cases f
    have H3 := H1.out.below hC3 (Nat.le_refl _)
    have q3 : w3.cell? ⟨g, 3, none⟩ = some (.slice A3 n c3) := CM.out w3 hC3
    have fz := H3.blk.frozen 3
    have H4 := H3.nw (B := w.heap.size) hgl
    have hmk : ∃ ys : List SlE, Sli 1 slE (nw I w.heap.size w3) w3 A7 ys (s.marks ++ [D]).length c7 ∧ ∀ (i : Nat) (l : List Pt), (s.marks ++ [D])[i]? = some l → ∃ A c, ys[i]? = some (A, l.length, c) ∧ Sli 65 atL (nw I w.heap.size w3) w3 A l l.length c := by
      refine ⟨xs ++ [(A5, D.length, c5)], ?_, fun i l hi => ?_⟩
      · rw [HXL.out] at sl
        rw [List.length_append, List.length_singleton, ← HN.out]
        exact sl.bound.mono fun b hb => .inr hb
      · by_cases hin : i < s.marks.length
        · rw [List.getElem?_append_left hin] at hi
          obtain ⟨A, c, h1, h2⟩ := HXM.out i l hi
          exact ⟨A, c, by rw [List.getElem?_append_left (by rw [HXL.out, HN.out]; exact hin)]; exact h1, (h2.turn (Turn.of_new (S := fun _ => False) hC3) fun _ _ _ e => e).mono fun b hb => .inl hb⟩
        · have hie : i = s.marks.length := by
            have := (List.getElem?_eq_some_iff.1 hi).1
            rw [List.length_append, List.length_singleton] at this
            omega
          subst hie
          rw [List.getElem?_append_right (Nat.le_refl _), Nat.sub_self] at hi
          obtain rfl : D = l := by simpa using hi
          exact ⟨A5, c5, by rw [List.getElem?_append_right (by rw [HXL.out, HN.out]; exact Nat.le_refl _), HXL.out, HN.out, Nat.sub_self]; rfl, sd.bound.mono fun b hb => .inr hb⟩
    have H5 := hid (H4.setMarks hmk)
    have T5 := hid ((Turn.of_new (S := fun b => b = g) hC3).trans (tgt (w := w3) (g := g) (j := 3) (v := .slice A7 (s.marks ++ [D]).length c7)) (fun k h => Or.inl h))
    rw [show (s.marks ++ [D]).length = n + 1 by rw [List.length_append, List.length_singleton, ← HN.out]] at H5 T5
    have B3 := hid hC3
    clear H3 H4 hmk hall hC3 hDs sl sd E7 E8 E9 CM H1 HXS HXM p3
    go_upto_region 4 with fail
    generalize w3.setCell ⟨g, 3, none⟩ (.slice A7 (n + 1) c7) = w4 at H5 T5 ⊢
    have q4 : w4.cell? ⟨g, 3, none⟩ = some (.slice A7 (n + 1) c7) := by
      have := H5.out.blk.cell 3
      rw [this]
      show some (Value.slice A7 (s.marks ++ [D]).length c7) = _
      rw [List.length_append, List.length_singleton, ← HN.out]
    clear q3 fz
    go_wp2_with fail
    refine bodyPost_ret (results_tmp2 rfl _ _ _) rfl ?_
    refine ⟨rfl, nw I w.heap.size w3, ⟨_, _, _, _, _, _, by rw [← HD.out]; exact H5.out⟩, fun b hb => hb.imp id And.left, T5.out⟩
end MbP
end Go.Proofs.Yteglhalninlapaa
set_option maxRecDepth 100000
namespace Go.Proofs.Yteglhalninlapaa
namespace MbM
def St.may (st : St) (i : Int) : Bool := decide (0 ≤ i ∧ i < st.n)
def rdE (st : St) (i : Int) : Int := if st.may i then (if st.fails then 10 else 0) else 2
def rdS (st : St) (i : Int) : Nat → Nat := if st.may i then (if st.fails then zero else seen st i) else zero
def lkE (st : St) (i : Int) : Int := if st.may i then 0 else 2
def lkS (st : St) (i : Int) : Nat → Nat := if st.may i then st.dur i else zero
def wrT (st : St) (i : Int) (x : Nat → Nat) : St := if st.may i then (if st.fails then st else write st i x) else st
def flE (st : St) : Int := if st.fails then 10 else 0
def flT (st : St) : St := if st.fails then st else flush st
def seT (st : St) (i : Int) (x : Nat → Nat) : St := if st.may i then set st i x else st
def mkE (st : St) : Int := if 64 ≤ st.marks.length then 7 else 0
def mkN (st : St) : Int := if 64 ≤ st.marks.length then 0 else st.marks.length
def mkT (st : St) : St := if 64 ≤ st.marks.length then st else mark st
def bkE (st : St) (n : Int) : Int := if n < 0 ∨ (st.marks.length : Int) ≤ n then 2 else 0
def bkT (st : St) (n : Int) : St := if n < 0 ∨ (st.marks.length : Int) ≤ n then st else back st n.toNat
/-- Bytes, all of them. -/
def St.ok (st : St) : Prop := (∀ i k, st.dur i k < 256) ∧ (∀ p ∈ st.log, ∀ k, p.s k < 256) ∧ ∀ m ∈ st.marks, ∀ i k, (m : Img) i k < 256
theorem app_lt {d : Img} {l : List Pt} (hd : ∀ i k, d i k < 256) (hl : ∀ p ∈ l, ∀ k, p.s k < 256) : ∀ i k, app d l i k < 256 := by
  induction l generalizing d with
  | nil => exact hd
  | cons p l ih =>
    rw [app_cons]
    refine ih (fun i k => ?_) fun q hq => hl q (List.mem_cons_of_mem _ hq)
    unfold upd
    split
    · exact hl p List.mem_cons_self k
    · exact hd i k
theorem zero_lt (k : Nat) : zero k < 256 := by unfold zero; omega
theorem kept_mem {l : List Pt} {picks : List Nat} {p : Pt} (h : p ∈ kept l picks) : p ∈ l := by
  unfold kept keptN at h
  obtain ⟨k, _, hk⟩ := List.mem_flatMap.1 h
  split at hk
  · cases hk
  · cases e : l[k]? with
    | none => rw [e] at hk; cases hk
    | some q =>
      rw [e] at hk
      simp only [Option.toList_some, List.mem_singleton] at hk
      subst hk
      exact List.mem_of_getElem? e
theorem made_ok (n : Int) : (made n).ok := ⟨fun _ k => zero_lt k, fun p hp => (by cases hp), fun m hm => (by cases hm)⟩
theorem seen_lt {st : St} (h : st.ok) : ∀ i k, seen st i k < 256 := app_lt h.1 h.2.1
theorem wr_ok {st : St} (h : st.ok) (i : Int) {x : Nat → Nat} (hx : ∀ k, x k < 256) : (wrT st i x).ok := by
  unfold wrT
  split
  · split
    · exact h
    · refine ⟨h.1, fun p hp => ?_, h.2.2⟩
      rcases List.mem_append.1 hp with hp | hp
      · exact h.2.1 p hp
      · rw [List.mem_singleton] at hp; subst hp; exact hx
  · exact h
theorem fl_ok {st : St} (h : st.ok) : (flT st).ok := by
  unfold flT
  split
  · exact h
  · exact ⟨app_lt h.1 h.2.1, fun p hp => (by cases hp), h.2.2⟩
theorem cr_ok {st : St} (h : st.ok) (picks : List Nat) : (crash st picks).ok := ⟨app_lt h.1 fun p hp => h.2.1 p (kept_mem hp), fun p hp => (by cases hp), h.2.2⟩
theorem se_ok {st : St} (h : st.ok) (i : Int) {x : Nat → Nat} (hx : ∀ k, x k < 256) : (seT st i x).ok := by
  unfold seT
  split
  · refine ⟨fun j k => ?_, fun p hp => h.2.1 p (List.mem_filter.1 hp).1, h.2.2⟩
    show upd st.dur ⟨i, x⟩ j k < 256
    unfold upd
    split
    · exact hx k
    · exact h.1 j k
  · exact h
theorem mk_ok {st : St} (h : st.ok) : (mkT st).ok := by
  unfold mkT
  split
  · exact h
  · refine ⟨h.1, h.2.1, fun m hm => ?_⟩
    rcases List.mem_append.1 hm with hm | hm
    · exact h.2.2 m hm
    · rw [List.mem_singleton] at hm; subst hm; exact seen_lt h
theorem bk_ok {st : St} (h : st.ok) (n : Int) : (bkT st n).ok := by
  unfold bkT
  split
  · exact h
  · refine ⟨fun i k => ?_, fun p hp => (by cases hp), h.2.2⟩
    show (st.marks.getD n.toNat fun _ => zero) i k < 256
    rw [List.getD_eq_getElem?_getD]
    cases e : st.marks[n.toNat]? with
    | none => exact zero_lt k
    | some m => exact h.2.2 m (List.mem_of_getElem? e) i k
theorem fa_ok {st : St} (h : st.ok) (q : Bool) : (fail st q).ok := ⟨h.1, h.2.1, h.2.2⟩
theorem cl_ok {st : St} (h : st.ok) : (clean st).ok := ⟨h.1, h.2.1, h.2.2⟩
end MbM
end Go.Proofs.Yteglhalninlapaa
set_option maxRecDepth 100000
namespace Go.Proofs.Yteglhalninlapaa
open Go.ChangeShapes Go.WideShapes Go.ChangeAt Go.RowKit
namespace MbP
open MbM
theorem sem_may (s : Ls) (i : Int) : s.sem.may i = s.may i := rfl
theorem sem_wr (s : Ls) (i : Int) (x : Nat → Nat) : (wrL s i x).sem = wrT s.sem i x := by
  unfold wrL wrT
  rw [sem_may]
  by_cases hm : s.may i = true
  · rw [if_pos hm, if_pos hm]
    by_cases hf : s.fails = true
    · rw [if_pos hf, if_pos (show s.sem.fails = true from hf)]
    · rw [if_neg hf, if_neg (show ¬ s.sem.fails = true from hf)]; rfl
  · rw [if_neg hm, if_neg hm]
theorem sem_fl (s : Ls) : (flL s).sem = flT s.sem := by
  unfold flL flT
  by_cases hf : s.fails = true
  · rw [if_pos hf, if_pos (show s.sem.fails = true from hf)]
  · rw [if_neg hf, if_neg (show ¬ s.sem.fails = true from hf)]
    show (⟨s.n, img (s.dur ++ s.log), [], s.marks.map img, s.fails, s.hurt⟩ : St) = ⟨s.n, app (img s.dur) s.log, [], s.marks.map img, s.fails, s.hurt⟩
    rw [img_append]
theorem sem_cr (s : Ls) (picks : List Nat) : (crashL s picks).sem = crash s.sem picks := by
  unfold crashL Ls.sem crash
  simp only [img_append]
theorem sem_se (s : Ls) (i : Int) (x : Nat → Nat) : (setL s i x).sem = seT s.sem i x := by
  unfold setL seT
  rw [sem_may]
  by_cases hm : s.may i = true
  · rw [if_pos hm, if_pos hm]
    show (⟨s.n, img (s.dur ++ [⟨i, x⟩]), oth s.log i, s.marks.map img, s.fails, true⟩ : St) = ⟨s.n, upd (img s.dur) ⟨i, x⟩, s.log.filter fun p => decide (p.i ≠ i), s.marks.map img, s.fails, true⟩
    rw [img_append]
    rfl
  · rw [if_neg hm, if_neg hm]
theorem sem_mk (s : Ls) : (markL s).sem = mkT s.sem := by
  unfold markL mkT
  show (if 64 ≤ s.marks.length then s else _).sem = if 64 ≤ (s.marks.map img).length then s.sem else _
  rw [List.length_map]
  by_cases h : 64 ≤ s.marks.length
  · rw [if_pos h, if_pos h]
  · rw [if_neg h, if_neg h]
    show (⟨s.n, img s.dur, s.log, (s.marks ++ [s.dur ++ s.log]).map img, s.fails, s.hurt⟩ : St) = ⟨s.n, img s.dur, s.log, s.marks.map img ++ [app (img s.dur) s.log], s.fails, s.hurt⟩
    rw [List.map_append, List.map_cons, List.map_nil, img_append]
theorem sem_bk (s : Ls) (n : Int) : (backL s n).sem = bkT s.sem n := by
  unfold backL bkT
  show (if n < 0 ∨ (s.marks.length : Int) ≤ n then s else _).sem = if n < 0 ∨ ((s.marks.map img).length : Int) ≤ n then s.sem else _
  rw [List.length_map]
  by_cases h : n < 0 ∨ (s.marks.length : Int) ≤ n
  · rw [if_pos h, if_pos h]
  · rw [if_neg h, if_neg h]
    have e : img (s.marks.getD n.toNat []) = (s.marks.map img).getD n.toNat fun _ => zero := by
      rw [List.getD_eq_getElem?_getD, List.getD_eq_getElem?_getD, List.getElem?_map]
      cases s.marks[n.toNat]? <;> rfl
    show (⟨s.n, img (s.marks.getD n.toNat []), [], s.marks.map img, s.fails, true⟩ : St) = ⟨s.n, (s.marks.map img).getD n.toNat fun _ => zero, [], s.marks.map img, s.fails, true⟩
    rw [e]
theorem sem_fa (s : Ls) (q : Bool) : (failL s q).sem = fail s.sem q := rfl
theorem sem_made (n : Int) : (Ls.made n).sem = made n := rfl
theorem sem_rdS (s : Ls) (i : Int) : readS s i = rdS s.sem i := by
  unfold readS rdS
  rw [sem_may, seenL_sem]
  rfl
theorem sem_rdE (s : Ls) (i : Int) : readE s i = rdE s.sem i := rfl
theorem sem_lkS (s : Ls) (i : Int) : lookS s i = lkS s.sem i := by
  unfold lookS lkS
  rw [sem_may]
  show (if s.may i = true then _ else _) = if s.may i = true then img s.dur i else zero
  rw [img_find]
theorem sem_lkE (s : Ls) (i : Int) : lookE s i = lkE s.sem i := rfl
theorem sem_flE (s : Ls) : flE s = MbM.flE s.sem := rfl
theorem sem_mkE (s : Ls) : markE s = mkE s.sem := by
  unfold markE mkE
  show _ = if 64 ≤ (s.marks.map img).length then (7 : Int) else 0
  rw [List.length_map]
theorem sem_mkN (s : Ls) : markN s = mkN s.sem := by
  unfold markN mkN
  show _ = if 64 ≤ (s.marks.map img).length then (0 : Int) else (s.marks.map img).length
  rw [List.length_map]
theorem sem_bkE (s : Ls) (n : Int) : backE s n = bkE s.sem n := by
  unfold backE bkE
  show _ = if n < 0 ∨ ((s.marks.map img).length : Int) ≤ n then (2 : Int) else 0
  rw [List.length_map]
/-- How long its lists are. -/
def Ls.le (s : Ls) (k : Nat) : Prop := s.dur.length + s.log.length ≤ k ∧ ∀ m ∈ s.marks, m.length ≤ k
theorem le_mono {s : Ls} {k k' : Nat} (h : s.le k) (hk : k ≤ k') : s.le k' := ⟨Nat.le_trans h.1 hk, fun m hm => Nat.le_trans (h.2 m hm) hk⟩
theorem le_wr {s : Ls} {k : Nat} (h : s.le k) (i : Int) (x : Nat → Nat) : (wrL s i x).le (k + 1) := by
  unfold wrL
  split
  · split
    · exact le_mono h (by omega)
    · exact ⟨by show s.dur.length + (s.log ++ [_]).length ≤ _; rw [List.length_append, List.length_singleton]; have := h.1; omega, fun m hm => Nat.le_succ_of_le (h.2 m hm)⟩
  · exact le_mono h (by omega)
theorem le_fl {s : Ls} {k : Nat} (h : s.le k) : (flL s).le (k + 1) := by
  unfold flL
  split
  · exact le_mono h (by omega)
  · exact ⟨by show (s.dur ++ s.log).length + 0 ≤ _; rw [List.length_append]; have := h.1; omega, fun m hm => Nat.le_succ_of_le (h.2 m hm)⟩
theorem le_cr {s : Ls} {k : Nat} (h : s.le k) (picks : List Nat) : (crashL s picks).le (k + 1) :=
  ⟨by show (s.dur ++ kept s.log picks).length + 0 ≤ _; rw [List.length_append]; have := kept_length s.log picks s.log.length; have := h.1; unfold kept; omega, fun m hm => Nat.le_succ_of_le (h.2 m hm)⟩
theorem le_se {s : Ls} {k : Nat} (h : s.le k) (i : Int) (x : Nat → Nat) : (setL s i x).le (k + 1) := by
  unfold setL
  split
  · refine ⟨?_, fun m hm => Nat.le_succ_of_le (h.2 m hm)⟩
    show (s.dur ++ [_]).length + (oth s.log i).length ≤ _
    rw [List.length_append, List.length_singleton]
    have h1 := h.1
    have h2 : (oth s.log i).length ≤ s.log.length := List.length_filter_le _ _
    omega
  · exact le_mono h (by omega)
theorem le_mk {s : Ls} {k : Nat} (h : s.le k) : (markL s).le (k + 1) := by
  unfold markL
  split
  · exact le_mono h (by omega)
  · refine ⟨Nat.le_succ_of_le h.1, fun m hm => ?_⟩
    rcases List.mem_append.1 hm with hm | hm
    · exact Nat.le_succ_of_le (h.2 m hm)
    · rw [List.mem_singleton] at hm; subst hm; rw [List.length_append]; have := h.1; omega
theorem le_bk {s : Ls} {k : Nat} (h : s.le k) (n : Int) : (backL s n).le (k + 1) := by
  unfold backL
  split
  · exact le_mono h (by omega)
  · refine ⟨?_, fun m hm => Nat.le_succ_of_le (h.2 m hm)⟩
    show (s.marks.getD n.toNat []).length + 0 ≤ _
    rw [List.getD_eq_getElem?_getD]
    cases e : s.marks[n.toNat]? with
    | none => simp
    | some m => have := h.2 m (List.mem_of_getElem? e); show m.length + 0 ≤ _; omega
theorem le_fa {s : Ls} {k : Nat} (h : s.le k) (q : Bool) : (failL s q).le (k + 1) := le_mono (s := s) h (by omega)
/-- Block g holds a member st of the document's, by lists of at most k. -/
def RS (w : World) (g : Nat) (I : Nat → Prop) (k : Nat) (st : St) : Prop := ∃ s, RM w g I s ∧ s.sem = st ∧ s.le k
def RSo (w : World) (g : Nat) (I : Nat → Prop) (k : Nat) (st : St) (w' : World) : Prop := ∃ J, RS w' g J k st ∧ (∀ b, J b → I b ∨ w.heap.size ≤ b) ∧ Turn (fun b => b = g) w w'
theorem RSo.of {w w' : World} {g k : Nat} {I : Nat → Prop} {s : Ls} {st : St} (h : RMo w g I s w') (he : s.sem = st) (hk : s.le k) : RSo w g I k st w' := by
  obtain ⟨J, h1, h2, h3⟩ := h
  exact ⟨J, ⟨s, h1, he, hk⟩, h2, h3⟩
end MbP
end Go.Proofs.Yteglhalninlapaa
set_option maxRecDepth 100000
namespace Go.Proofs.Yteglhalninlapaa
open Go.ChangeShapes Go.WideShapes Go.ChangeAt Go.RowKit
attribute [local go_sem] Gives GivesE
namespace MbP
open MbM
def at' (g : Nat) : Value := .pointer (some ⟨g, 0, none⟩)
/-- rep w g M I k st: in w the pointer to block g is a member st; it turns blocks of M alone, and reads those of M and I; k calls have turned it. -/
abbrev RepT := World → Nat → (Nat → Prop) → (Nat → Prop) → Nat → St → Prop
def outP (rep : RepT) (w : World) (g : Nat) (M I : Nat → Prop) (k : Nat) (st : St) (w' : World) : Prop :=
  ∃ M' I', rep w' g M' I' k st ∧ (∀ b, M' b → M b ∨ w.heap.size ≤ b) ∧ (∀ b, I' b → M b ∨ I b ∨ w.heap.size ≤ b) ∧ Turn M w w'
structure MemC (rep : RepT) : Prop where
  lt : ∀ {w g M I k st}, rep w g M I k st → ∀ b, M b ∨ I b → b < w.heap.size
  frame : ∀ {w w' g M I k st} {T : Nat → Prop}, rep w g M I k st → Turn T w w' → (∀ b, M b ∨ I b → ¬ T b) → rep w' g M I k st
  mono : ∀ {w g M I k k' st}, rep w g M I k st → k ≤ k' → rep w g M I k' st
  own : ∀ {w g M I k st}, rep w g M I k st → ∀ b, M b → ¬ I b
  new : ∀ n : Int, 1 ≤ n → n ≤ 65536 → ∀ w, Calls Try.prog 10 #[.int .i64 n] w fun e w' => ∃ g M I, e = .returned (.tuple #[at' g, .int .i64 0]) ∧ rep w' g M I 0 (made n) ∧ (∀ b, M b ∨ I b → w.heap.size ≤ b) ∧ Below w.heap.size w w'
  bad : ∀ n : Int, ¬ (1 ≤ n ∧ n ≤ 65536) → ∀ w, Calls Try.prog 10 #[.int .i64 n] w fun e w' => e = .returned (.tuple #[.pointer none, .int .i64 2]) ∧ Below w.heap.size w w'
  read : ∀ {w g M I k st}, rep w g M I k st → st.ok → k ≤ 1000 → ∀ i : Int, Calls Try.prog 26 #[at' g, .int .i64 i] w fun e w' => e = .returned (.tuple #[.agg (ar 64 (rdS st i)), .int .i64 (rdE st i)]) ∧ Below w.heap.size w w'
  look : ∀ {w g M I k st}, rep w g M I k st → st.ok → k ≤ 1000 → ∀ i : Int, Calls Try.prog 29 #[at' g, .int .i64 i] w fun e w' => e = .returned (.tuple #[.agg (ar 64 (lkS st i)), .int .i64 (lkE st i)]) ∧ Below w.heap.size w w'
  touched : ∀ {w g M I k st}, rep w g M I k st → Calls Try.prog 22 #[at' g] w fun e w' => e = .returned (.bool st.hurt) ∧ Below w.heap.size w w'
  len : ∀ {w g M I k st}, rep w g M I k st → Calls Try.prog 30 #[at' g] w fun e w' => e = .returned (.int .i64 st.n) ∧ Below w.heap.size w w'
  unflushed : ∀ {w g M I k st}, rep w g M I k st → Calls Try.prog 24 #[at' g] w fun e w' => e = .returned (.int .i64 (st.log.length : Nat)) ∧ Below w.heap.size w w'
  write : ∀ {w g M I k st}, rep w g M I k st → st.ok → k ≤ 1000 → ∀ (i : Int) (x : Nat → Nat), (∀ j, x j < 256) → Calls Try.prog 16 #[at' g, .int .i64 i, .agg (ar 64 x)] w fun e w' => e = .returned (.int .i64 (rdE st i)) ∧ outP rep w g M I (k + 1) (wrT st i x) w'
  flush : ∀ {w g M I k st}, rep w g M I k st → st.ok → k ≤ 1000 → Calls Try.prog 27 #[at' g] w fun e w' => e = .returned (.int .i64 (MbM.flE st)) ∧ outP rep w g M I (k + 1) (flT st) w'
  writeF : ∀ {w g M I k st}, rep w g M I k st → st.ok → k ≤ 1000 → st.fails = true → ∀ (i : Int) (x : Nat → Nat), (∀ j, x j < 256) → Calls Try.prog 16 #[at' g, .int .i64 i, .agg (ar 64 x)] w fun e w' => e = .returned (.int .i64 (rdE st i)) ∧ outP rep w g M I k st w'
  flushF : ∀ {w g M I k st}, rep w g M I k st → st.ok → k ≤ 1000 → st.fails = true → Calls Try.prog 27 #[at' g] w fun e w' => e = .returned (.int .i64 10) ∧ outP rep w g M I k st w'
  crash : ∀ {w g M I k st}, rep w g M I k st → st.ok → k ≤ 1000 → ∀ (P : Option Addr) (picks : List Nat) (pn pc : Nat), Arg w P picks pn pc → (∀ b o, 0 < picks.length → P = some ⟨b, o, none⟩ → ¬ (M b ∨ I b)) → Calls Try.prog 18 #[at' g, .slice P pn pc] w fun e w' => e = .returned (.int .i64 0) ∧ outP rep w g M I (k + 1) (crash st picks) w'
  set : ∀ {w g M I k st}, rep w g M I k st → st.ok → k ≤ 1000 → ∀ (i : Int) (x : Nat → Nat), (∀ j, x j < 256) → Calls Try.prog 21 #[at' g, .int .i64 i, .agg (ar 64 x)] w fun e w' => e = .returned (.int .i64 (lkE st i)) ∧ outP rep w g M I (k + 1) (seT st i x) w'
  mark : ∀ {w g M I k st}, rep w g M I k st → st.ok → k ≤ 1000 → Calls Try.prog 20 #[at' g] w fun e w' => e = .returned (.tuple #[.int .i64 (mkN st), .int .i64 (mkE st)]) ∧ outP rep w g M I (k + 1) (mkT st) w'
  back : ∀ {w g M I k st}, rep w g M I k st → st.ok → k ≤ 1000 → ∀ n : Int, Calls Try.prog 23 #[at' g, .int .i64 n] w fun e w' => e = .returned (.int .i64 (bkE st n)) ∧ outP rep w g M I (k + 1) (bkT st n) w'
  fail : ∀ {w g M I k st}, rep w g M I k st → ∀ q : Bool, Calls Try.prog 25 #[at' g, .bool q] w fun e w' => e = .returned (.int .i64 0) ∧ outP rep w g M I (k + 1) (fail st q) w'
  clean : ∀ {w g M I k st}, rep w g M I k st → Calls Try.prog 28 #[at' g] w fun e w' => e = .returned (.tuple #[]) ∧ outP rep w g M I (k + 1) (clean st) w'
  copy : ∀ {w g M I k st}, rep w g M I k st → st.ok → k ≤ 1000 → Calls Try.prog 14 #[at' g] w fun e w' => ∃ g2 M2 I2, e = .returned (at' g2) ∧ rep w' g2 M2 I2 k st ∧ (∀ b, M2 b → w.heap.size ≤ b) ∧ (∀ b, I2 b → I b ∨ w.heap.size ≤ b) ∧ Below w.heap.size w w'
/-- A member of the program's beside one of the document's; all that both lay lies from block B on. -/
structure J2 (rep : RepT) (B : Nat) (w : World) (m : Nat) (M I : Nat → Prop) (k : Nat) (st : St) (g : Nat) (L : Nat → Prop) (k2 : Nat) (st2 : St) : Prop where
  prog : rep w m M I k st
  ref : RS w g L k2 st2
  ok : st.ok
  apart : ∀ b, M b ∨ I b → ¬ (b = g ∨ L b)
  low : ∀ b, M b ∨ I b ∨ L b ∨ b = g → B ≤ b
  base : B ≤ w.heap.size
section
variable {rep : RepT} {B : Nat} {w w' : World} {m : Nat} {M I : Nat → Prop} {k : Nat} {st st' : St} {g : Nat} {L : Nat → Prop} {k2 : Nat} {st2 : St}
theorem RS.turn {T : Nat → Prop} (h : RS w g L k st) (ht : Turn T w w') (hg : ¬ T g) (hL : ∀ b, L b → ¬ T b) : RS w' g L k st := by
  obtain ⟨s, ⟨A1, c1, A2, c2, A3, c3, hr⟩, h2⟩ := h
  exact ⟨s, ⟨A1, c1, A2, c2, A3, c3, hr.turn ht hg hL⟩, h2⟩
theorem RS.lt (h : RS w g L k st) : g < w.heap.size ∧ ∀ b, L b → b < w.heap.size := by
  obtain ⟨s, ⟨A1, c1, A2, c2, A3, c3, hr⟩, h2⟩ := h
  exact ⟨hr.blk.lt, hr.lt⟩
theorem RS.out (h : RS w g L k st) : ¬ L g := by
  obtain ⟨s, ⟨A1, c1, A2, c2, A3, c3, hr⟩, h2⟩ := h
  exact hr.out
theorem RS.mono {k' : Nat} (h : RS w g L k st) (hk : k ≤ k') : RS w g L k' st := by
  obtain ⟨s, h1, h2, h3⟩ := h
  exact ⟨s, h1, h2, le_mono h3 hk⟩
theorem J2.below (hC : MemC rep) (h : J2 rep B w m M I k st g L k2 st2) (hb : Below w.heap.size w w') : J2 rep B w' m M I k st g L k2 st2 where
  prog := hC.frame h.prog (Turn.of_below hb) fun b hb' => by have := hC.lt h.prog b hb'; omega
  ref := h.ref.turn (Turn.of_below hb) (by have := h.ref.lt.1; omega) fun b hl => by have := h.ref.lt.2 b hl; omega
  ok := h.ok
  apart := h.apart
  low := h.low
  base := Nat.le_trans h.base hb.size
/-- What may be turned, and what may come to what is laid. -/
def Grew (w : World) (M I L : Nat → Prop) (g : Nat) (w' : World) (M' I' L' : Nat → Prop) : Prop :=
  (∀ b, M' b → M b ∨ w.heap.size ≤ b) ∧ (∀ b, I' b → M b ∨ I b ∨ w.heap.size ≤ b) ∧ (∀ b, L' b → L b ∨ w.heap.size ≤ b) ∧ Turn (fun b => M b ∨ b = g) w w'
theorem Grew.refl (w : World) (M I L : Nat → Prop) (g : Nat) : Grew w M I L g w M I L := ⟨fun _ h => .inl h, fun _ h => .inr (.inl h), fun _ h => .inl h, Turn.refl _ _⟩
theorem Grew.trans {w2 : World} {M' I' L' M2 I2 L2 : Nat → Prop} (h : Grew w M I L g w' M' I' L') (h2 : Grew w' M' I' L' g w2 M2 I2 L2) : Grew w M I L g w2 M2 I2 L2 := by
  have hs := h.2.2.2.size
  refine ⟨fun b hb => ?_, fun b hb => ?_, fun b hb => ?_, h.2.2.2.trans h2.2.2.2 fun b hb => ?_⟩
  · rcases h2.1 b hb with e | e
    · exact h.1 b e
    · exact .inr (Nat.le_trans hs e)
  · rcases h2.2.1 b hb with e | e | e
    · rcases h.1 b e with e | e
      · exact .inl e
      · exact .inr (.inr e)
    · exact h.2.1 b e
    · exact .inr (.inr (Nat.le_trans hs e))
  · rcases h2.2.2.1 b hb with e | e
    · exact h.2.2.1 b e
    · exact .inr (Nat.le_trans hs e)
  · rcases hb with e | e
    · exact (h.1 b e).imp .inl id
    · exact .inl (.inr e)
theorem Grew.below {hb : Below w.heap.size w w'} : Grew w M I L g w' M I L := ⟨fun _ h => .inl h, fun _ h => .inr (.inl h), fun _ h => .inl h, Turn.of_new hb⟩
theorem J2.byProg (hC : MemC rep) (h : J2 rep B w m M I k st g L k2 st2) {k' : Nat} (ho : outP rep w m M I k' st' w') (hok : st'.ok) : ∃ M' I', J2 rep B w' m M' I' k' st' g L k2 st2 ∧ Grew w M I L g w' M' I' L := by
  obtain ⟨M', I', h1, h2, h3, h4⟩ := ho
  have hlt := h.ref.lt
  refine ⟨M', I', ⟨h1, h.ref.turn h4 (fun e => h.apart g (.inl e) (.inl rfl)) fun b hl e => h.apart b (.inl e) (.inr hl), hok, fun b hb hgl => ?_, fun b hb => ?_, Nat.le_trans h.base h4.size⟩, h2, h3, fun _ e => .inl e, h4.mono fun _ e => .inl e⟩
  · have hbl : b < w.heap.size := by
      rcases hgl with e | e
      · exact e ▸ hlt.1
      · exact hlt.2 b e
    rcases hb with hb | hb
    · rcases h2 b hb with e | e
      · exact h.apart b (.inl e) hgl
      · omega
    · rcases h3 b hb with e | e | e
      · exact h.apart b (.inl e) hgl
      · exact h.apart b (.inr e) hgl
      · omega
  · rcases hb with hb | hb | hb
    · rcases h2 b hb with e | e
      · exact h.low b (.inl e)
      · exact Nat.le_trans h.base e
    · rcases h3 b hb with e | e | e
      · exact h.low b (.inl e)
      · exact h.low b (.inr (.inl e))
      · exact Nat.le_trans h.base e
    · exact h.low b (.inr (.inr hb))
theorem J2.byRef (hC : MemC rep) (h : J2 rep B w m M I k st g L k2 st2) {k' : Nat} (ho : RSo w g L k' st' w') : ∃ L', J2 rep B w' m M I k st g L' k' st' ∧ Grew w M I L g w' M I L' := by
  obtain ⟨L', h1, h2, h3⟩ := ho
  refine ⟨L', ⟨hC.frame h.prog h3 fun b hb e => h.apart b hb (.inl e), h1, h.ok, fun b hb hgl => ?_, fun b hb => ?_, Nat.le_trans h.base h3.size⟩, fun _ e => .inl e, fun _ e => .inr (.inl e), h2, h3.mono fun _ e => .inr e⟩
  · rcases hgl with e | e
    · exact h.apart b hb (.inl e)
    · rcases h2 b e with e | e
      · exact h.apart b hb (.inr e)
      · have := hC.lt h.prog b hb; omega
  · rcases hb with hb | hb | hb | hb
    · exact h.low b (.inl hb)
    · exact h.low b (.inr (.inl hb))
    · rcases h2 b hb with e | e
      · exact h.low b (.inr (.inr (.inl e)))
      · exact Nat.le_trans h.base e
    · exact h.low b (.inr (.inr (.inr hb)))
theorem J2.mono {k' k2' : Nat} (hC : MemC rep) (h : J2 rep B w m M I k st g L k2 st2) (hk : k ≤ k') (hk2 : k2 ≤ k2') : J2 rep B w m M I k' st g L k2' st2 := ⟨hC.mono h.prog hk, h.ref.mono hk2, h.ok, h.apart, h.low, h.base⟩
theorem Grew.low {M' I' L' : Nat → Prop} (h : J2 rep B w m M I k st g L k2 st2) (hg : Grew w M I L g w' M' I' L') : Below B w w' := hg.2.2.2.below h.base fun b e => by
  rcases e with e | e
  · exact h.low b (.inl e)
  · exact h.low b (.inr (.inr (.inr e)))
end
end MbP
end Go.Proofs.Yteglhalninlapaa
set_option maxRecDepth 100000
namespace Go.Proofs.Yteglhalninlapaa
open Go.ChangeShapes Go.WideShapes Go.ChangeAt Go.RowKit
namespace MbP
open MbM
section
variable {w w' : World} {g : Nat} {L : Nat → Prop} {k : Nat} {st : St}
theorem rs_read (h : RS w g L k st) (i : Int) : Calls Try.prog 40 #[at' g, .int .i64 i] w fun e w' => e = .returned (.tuple #[.agg (ar 64 (rdS st i)), .int .i64 (rdE st i)]) ∧ Below w.heap.size w w' := by
  obtain ⟨s, h1, rfl, h3⟩ := h
  have := read_any g L s i w h1
  rw [sem_rdS, sem_rdE] at this
  exact this
theorem rs_look (h : RS w g L k st) (i : Int) : Calls Try.prog 41 #[at' g, .int .i64 i] w fun e w' => e = .returned (.tuple #[.agg (ar 64 (lkS st i)), .int .i64 (lkE st i)]) ∧ Below w.heap.size w w' := by
  obtain ⟨s, h1, rfl, h3⟩ := h
  have := look_any g L s i w h1
  rw [sem_lkS, sem_lkE] at this
  exact this
theorem rs_write (h : RS w g L k st) (hk : k ≤ 1000) (i : Int) (x : Nat → Nat) : Calls Try.prog 33 #[at' g, .int .i64 i, .agg (ar 64 x)] w fun e w' => e = .returned (.int .i64 (rdE st i)) ∧ RSo w g L (k + 1) (wrT st i x) w' := by
  obtain ⟨s, h1, rfl, h3⟩ := h
  exact (write_any g L s i x (by have := h3.1; omega) w h1).mono fun e w' ⟨e1, e2⟩ => ⟨e1, RSo.of e2 (sem_wr s i x) (le_wr h3 i x)⟩
theorem rs_flush (h : RS w g L k st) (hk : k ≤ 1000) : Calls Try.prog 34 #[at' g] w fun e w' => e = .returned (.int .i64 (MbM.flE st)) ∧ RSo w g L (k + 1) (flT st) w' := by
  obtain ⟨s, h1, rfl, h3⟩ := h
  exact (flush_any g L s (by have := h3.1; omega) w h1).mono fun e w' ⟨e1, e2⟩ => ⟨e1, RSo.of e2 (sem_fl s) (le_fl h3)⟩
theorem rs_crash (h : RS w g L k st) (hk : k ≤ 1000) (P : Option Addr) (picks : List Nat) (pn pc : Nat) (hp : Arg w P picks pn pc) (hne : ∀ b o, 0 < picks.length → P = some ⟨b, o, none⟩ → b ≠ g) : Calls Try.prog 35 #[at' g, .slice P pn pc] w fun e w' => e = .returned (.tuple #[]) ∧ RSo w g L (k + 1) (crash st picks) w' := by
  obtain ⟨s, h1, rfl, h3⟩ := h
  exact (crash_any g L s (by have := h3.1; omega) P picks pn pc w h1 hp hne).mono fun e w' ⟨e1, e2⟩ => ⟨e1, RSo.of e2 (sem_cr s picks) (le_cr h3 picks)⟩
theorem rs_set (h : RS w g L k st) (hk : k ≤ 1000) (i : Int) (x : Nat → Nat) : Calls Try.prog 36 #[at' g, .int .i64 i, .agg (ar 64 x)] w fun e w' => e = .returned (.int .i64 (lkE st i)) ∧ RSo w g L (k + 1) (seT st i x) w' := by
  obtain ⟨s, h1, rfl, h3⟩ := h
  exact (set_any g L s i x (by have := h3.1; omega) w h1).mono fun e w' ⟨e1, e2⟩ => ⟨e1, RSo.of e2 (sem_se s i x) (le_se h3 i x)⟩
theorem rs_mark (h : RS w g L k st) (hk : k ≤ 1000) : Calls Try.prog 37 #[at' g] w fun e w' => e = .returned (.tuple #[.int .i64 (mkN st), .int .i64 (mkE st)]) ∧ RSo w g L (k + 1) (mkT st) w' := by
  obtain ⟨s, h1, rfl, h3⟩ := h
  rw [← sem_mkN, ← sem_mkE]
  exact (mark_any g L s (by have := h3.1; omega) w h1).mono fun e w' ⟨e1, e2⟩ => ⟨e1, RSo.of e2 (sem_mk s) (le_mk h3)⟩
theorem rs_back (h : RS w g L k st) (n : Int) : Calls Try.prog 38 #[at' g, .int .i64 n] w fun e w' => e = .returned (.int .i64 (bkE st n)) ∧ RSo w g L (k + 1) (bkT st n) w' := by
  obtain ⟨s, h1, rfl, h3⟩ := h
  rw [← sem_bkE]
  exact (back_any g L s n w h1).mono fun e w' ⟨e1, e2⟩ => ⟨e1, RSo.of e2 (sem_bk s n) (le_bk h3 n)⟩
theorem rs_fail (h : RS w g L k st) (q : Bool) : Calls Try.prog 39 #[at' g, .bool q] w fun e w' => e = .returned (.tuple #[]) ∧ RSo w g L (k + 1) (fail st q) w' := by
  obtain ⟨s, h1, rfl, h3⟩ := h
  exact (fail_any g L s q w h1).mono fun e w' ⟨e1, e2⟩ => ⟨e1, RSo.of e2 (sem_fa s q) (le_fa h3 q)⟩
theorem rs_made (n : Int) (w : World) : Calls Try.prog 11 #[.int .i64 n] w fun e w' => e = .returned (at' w.heap.size) ∧ RS w' w.heap.size (fun _ => False) 0 (made n) ∧ Below w.heap.size w w' :=
  (made_any n w).mono fun e w' ⟨e1, e2, e3⟩ => ⟨e1, ⟨Ls.made n, e2, sem_made n, ⟨Nat.le_refl _, fun m hm => (by cases hm)⟩⟩, e3⟩
theorem rs_copy (h : RS w g L k st) : Calls Try.prog 15 #[at' g] w fun e w' => e = .returned (at' w.heap.size) ∧ RS w' w.heap.size L k st ∧ RS w' g L k st ∧ Below w.heap.size w w' := by
  obtain ⟨s, h1, h2, h3⟩ := h
  exact (copy_any g L s w h1).mono fun e w' ⟨e1, e2, e3, e4⟩ => ⟨e1, ⟨s, e2, h2, h3⟩, ⟨s, e3, h2, h3⟩, e4⟩
/-- 'r.Hurt = false'. -/
theorem RS.clean (h : RS w g L k st) : RS (w.setCell ⟨g, 5, none⟩ (.bool false)) g L (k + 1) (MbM.clean st) := by
  obtain ⟨s, ⟨A1, c1, A2, c2, A3, c3, h1⟩, rfl, h3⟩ := h
  exact ⟨{ s with hurt := false }, ⟨A1, c1, A2, c2, A3, c3, h1.setHurt false⟩, rfl, le_mono (s := s) h3 (by omega)⟩
theorem RS.fields (h : RS w g L k st) : w.cell? ⟨g, 0, none⟩ = some (.int .i64 st.n) ∧ (∃ A c, w.cell? ⟨g, 2, none⟩ = some (.slice A st.log.length c)) ∧ w.cell? ⟨g, 5, none⟩ = some (.bool st.hurt) ∧ (∃ u, w.cell? ⟨g, 1, none⟩ = some u) := by
  obtain ⟨s, ⟨A1, c1, A2, c2, A3, c3, h1⟩, rfl, h3⟩ := h
  exact ⟨h1.blk.cell 0, ⟨A2, c2, h1.blk.cell 2⟩, h1.blk.cell 5, ⟨_, h1.blk.cell 1⟩⟩
theorem RS.fr5 (h : RS w g L k st) : w.frozen? ⟨g, 5, none⟩ = false := by
  obtain ⟨s, ⟨A1, c1, A2, c2, A3, c3, h1⟩, rfl, h3⟩ := h
  exact h1.blk.frozen 5
theorem rdS_lt {st : St} (h : st.ok) (i : Int) : ∀ j, rdS st i j < 256 := fun j => by
  unfold rdS
  split
  · split
    · exact zero_lt j
    · exact seen_lt h i j
  · exact zero_lt j
theorem lkS_lt {st : St} (h : st.ok) (i : Int) : ∀ j, lkS st i j < 256 := fun j => by
  unfold lkS
  split
  · exact h.1 i j
  · exact zero_lt j
end
end MbP
end Go.Proofs.Yteglhalninlapaa
set_option maxRecDepth 100000
namespace Go.Proofs.Yteglhalninlapaa
open Go.ChangeShapes Go.WideShapes Go.ChangeAt Go.RowKit
attribute [local go_sem] Gives
namespace MbP
open MbM
theorem uSe : Try.prog.underlying 32 = some (.array 64 5) := Try.underlying32
theorem eqg_se : Try.prog.eqGuardType Try.prog.depth 32 = false := by kernel_rfl
/-- What stands while the looks are taken. -/
structure LkC (rep : RepT) (B : Nat) (w0 : World) (m : Nat) (M I : Nat → Prop) (k : Nat) (st : St) (g : Nat) (L : Nat → Prop) (k2 : Nat) (a b c d : Nat) (X Y : Nat → Nat) (A : Option Addr) (cA : Nat) (w : World) : Prop where
  j : J2 rep B w m M I k st g L k2 st
  a : Blk w a 32 (ar 64 X)
  b : Blk w b 32 (ar 64 X)
  c : Blk w c 32 (ar 64 Y)
  d : Blk w d 32 (ar 64 Y)
  lg : w.cell? ⟨g, 2, none⟩ = some (.slice A st.log.length cA)
  new : Below w0.heap.size w0 w
theorem LkC.below {rep : RepT} {B : Nat} {w0 w w' : World} {m k g k2 a b c d : Nat} {M I L : Nat → Prop} {st : St} {X Y : Nat → Nat} {A : Option Addr} {cA : Nat} (hC : MemC rep) (h : LkC rep B w0 m M I k st g L k2 a b c d X Y A cA w) (hb : Below w.heap.size w w') : LkC rep B w0 m M I k st g L k2 a b c d X Y A cA w' :=
  ⟨h.j.below hC hb, h.a.below hb h.a.lt, h.b.below hb h.b.lt, h.c.below hb h.c.lt, h.d.below hb h.d.lt, (hb.cell h.j.ref.lt.1).trans h.lg, h.new.trans (hb.mono h.new.size)⟩
set_option maxHeartbeats 800000 in
set_option maxRecDepth 100000 in
theorem looks_any {rep : RepT} (hC : MemC rep) (B m k g k2 : Nat) (M I L : Nat → Prop) (st : St) (i : Int) (hk : k ≤ 1000) (w : World) (h : J2 rep B w m M I k st g L k2 st) :
    Calls Try.prog 13 #[at' m, at' g, .int .i64 i] w fun e w' => e = .returned (.bool true) ∧ Below w.heap.size w w' := by
  have H := hid h
  have HK := hid hk
  obtain ⟨X, hX⟩ : ∃ X, X = rdS st i := ⟨_, rfl⟩
  obtain ⟨Y, hY⟩ : ∃ Y, Y = lkS st i := ⟨_, rfl⟩
  obtain ⟨x, hx⟩ : ∃ x, x = rdE st i := ⟨_, rfl⟩
  obtain ⟨y, hy⟩ : ∃ y, y = lkE st i := ⟨_, rfl⟩
  have HX := hid hX
  have HY := hid hY
  have Hx := hid hx
  have Hy := hid hy
  clear h hk hX hY hx hy
  unfold at'
  go_enter Try.func13, Try.ntmps13
  go_wp2_with fail
  refine (hC.read H.out.prog H.out.ok HK.out i).mono ?_
  rintro e w1 ⟨rfl, h1⟩
  rw [← HX.out, ← Hx.out]
  have J1 := hid (H.out.below hC h1)
  have B1 := hid h1
  clear H h1
  go_upto_region 2 with (first | (with_reducible apply alA tSe) | ((with_reducible apply stA tSe); rfl; rfl; exact Blk.new _ _ _))
  generalize hw2 : World.setRow _ _ _ = w2
  obtain ⟨ga, hga⟩ : ∃ n, n = w1.heap.size := ⟨_, rfl⟩
  have a2 := hid (show Blk w2 ga 32 (ar 64 X) by rw [← hw2, hga]; exact (Blk.new w1 _ _).setRow_same _)
  have h2 : Below w1.heap.size w1 w2 := by rw [← hw2]; exact below_setRow ((Below.refl _ _).alloc (Nat.le_refl _) _) (Nat.le_refl _) _
  have J2' := hid (J1.out.below hC h2)
  have B2 := hid (B1.out.trans (h2.mono B1.out.size))
  rw [← hga]
  clear hw2 J1 B1 h2 hga
  go_wp2_with fail
  refine (rs_read J2'.out.ref i).mono ?_
  rintro e w3 ⟨rfl, h3⟩
  rw [← HX.out, ← Hx.out]
  have J3 := hid (J2'.out.below hC h3)
  have B3 := hid (B2.out.trans (h3.mono B2.out.size))
  have a3 := hid (a2.out.below h3 a2.out.lt)
  clear J2' B2 a2 h3
  go_upto_region 3 with (first | (with_reducible apply alA tSe) | ((with_reducible apply stA tSe); rfl; rfl; exact Blk.new _ _ _))
  generalize hw4 : World.setRow _ _ _ = w4
  obtain ⟨gb, hgb⟩ : ∃ n, n = w3.heap.size := ⟨_, rfl⟩
  have b4 := hid (show Blk w4 gb 32 (ar 64 X) by rw [← hw4, hgb]; exact (Blk.new w3 _ _).setRow_same _)
  have h4 : Below w3.heap.size w3 w4 := by rw [← hw4]; exact below_setRow ((Below.refl _ _).alloc (Nat.le_refl _) _) (Nat.le_refl _) _
  have J4 := hid (J3.out.below hC h4)
  have B4 := hid (B3.out.trans (h4.mono B3.out.size))
  have a4 := hid (a3.out.below h4 a3.out.lt)
  rw [← hgb]
  clear hw4 J3 B3 a3 h4 hgb
  go_wp2_with fail
  refine (hC.look J4.out.prog J4.out.ok HK.out i).mono ?_
  rintro e w5 ⟨rfl, h5⟩
  rw [← HY.out, ← Hy.out]
  have J5 := hid (J4.out.below hC h5)
  have B5 := hid (B4.out.trans (h5.mono B4.out.size))
  have a5 := hid (a4.out.below h5 a4.out.lt)
  have b5 := hid (b4.out.below h5 b4.out.lt)
  clear J4 B4 a4 b4 h5
  go_upto_region 4 with (first | (with_reducible apply alA tSe) | ((with_reducible apply stA tSe); rfl; rfl; exact Blk.new _ _ _))
  generalize hw6 : World.setRow _ _ _ = w6
  obtain ⟨gc, hgc⟩ : ∃ n, n = w5.heap.size := ⟨_, rfl⟩
  have c6 := hid (show Blk w6 gc 32 (ar 64 Y) by rw [← hw6, hgc]; exact (Blk.new w5 _ _).setRow_same _)
  have h6 : Below w5.heap.size w5 w6 := by rw [← hw6]; exact below_setRow ((Below.refl _ _).alloc (Nat.le_refl _) _) (Nat.le_refl _) _
  have J6 := hid (J5.out.below hC h6)
  have B6 := hid (B5.out.trans (h6.mono B5.out.size))
  have a6 := hid (a5.out.below h6 a5.out.lt)
  have b6 := hid (b5.out.below h6 b5.out.lt)
  rw [← hgc]
  clear hw6 J5 B5 a5 b5 h6 hgc
  go_wp2_with fail
  refine (rs_look J6.out.ref i).mono ?_
  rintro e w7 ⟨rfl, h7⟩
  rw [← HY.out, ← Hy.out]
  have J7 := hid (J6.out.below hC h7)
  have B7 := hid (B6.out.trans (h7.mono B6.out.size))
  have a7 := hid (a6.out.below h7 a6.out.lt)
  have b7 := hid (b6.out.below h7 b6.out.lt)
  have c7 := hid (c6.out.below h7 c6.out.lt)
  clear J6 B6 a6 b6 c6 h7
  go_upto_region 5 with (first | (with_reducible apply alA tSe) | ((with_reducible apply stA tSe); rfl; rfl; exact Blk.new _ _ _))
  generalize hw8 : World.setRow _ _ _ = w8
  obtain ⟨gd, hgd⟩ : ∃ n, n = w7.heap.size := ⟨_, rfl⟩
  have h8 : Below w7.heap.size w7 w8 := by rw [← hw8]; exact below_setRow ((Below.refl _ _).alloc (Nat.le_refl _) _) (Nat.le_refl _) _
  have J8 := J7.out.below hC h8
  obtain ⟨A, cA, hlg⟩ := J8.ref.fields.2.1
  have K8 := hid (show LkC rep B w m M I k st g L k2 ga gb gc gd X Y A cA w8 from ⟨J8, a7.out.below h8 a7.out.lt, b7.out.below h8 b7.out.lt, c7.out.below h8 c7.out.lt, by rw [← hw8, hgd]; exact (Blk.new w7 _ _).setRow_same _, hlg, B7.out.trans (h8.mono B7.out.size)⟩)
  rw [← hgd]
  clear hw8 J8 hlg J7 B7 a7 b7 c7 h8 hgd HX HY Hx Hy
  refine wp_region_tail (C := LkC rep B w m M I k st g L k2 ga gb gc gd X Y A cA) 46 (by kernel_rfl) (by kernel_rfl) (by kernel_rfl) (K8.out.below hC (Below.refl _ _).drew) ?_
  apply kldA tSe
  · rfl
  · rfl
  · exact fun w' hw' => hw'.a.head
  simp only [Act.put, List.setIfInBounds_toArray, List.set_cons_succ, List.set_cons_zero]
  apply kldA tSe
  · rfl
  · rfl
  · exact fun w' hw' => hw'.b.head
  simp only [Act.put, List.setIfInBounds_toArray, List.set_cons_succ, List.set_cons_zero]
  apply keqU true uSe eqg_se
  · rfl
  · rfl
  · rfl
  · exact eqA_yes fun _ _ => rfl
  simp only [Act.put, List.setIfInBounds_toArray, List.set_cons_succ, List.set_cons_zero]
  apply wpK_val
  · rfl
  · intro w' hw'
    go_simp
    first | exact rfl | exact ⟨rfl, hw'⟩
  simp only [Act.put, List.setIfInBounds_toArray, List.set_cons_succ, List.set_cons_zero]
  apply wpK_val
  · rfl
  · intro w' hw'
    go_simp
    first | exact rfl | exact ⟨rfl, hw'⟩
  simp only [Act.put, List.setIfInBounds_toArray, List.set_cons_succ, List.set_cons_zero]
  apply wpK_val
  · rfl
  · intro w' hw'
    go_simp
    first | exact rfl | exact ⟨rfl, hw'⟩
  simp only [Act.put, List.setIfInBounds_toArray, List.set_cons_succ, List.set_cons_zero]
  apply wpK_val
  · rfl
  · intro w' hw'
    go_simp
    first | exact rfl | exact ⟨rfl, hw'⟩
  simp only [Act.put, List.setIfInBounds_toArray, List.set_cons_succ, List.set_cons_zero]
  apply wpK_val
  · rfl
  · intro w' hw'
    go_simp
    first | exact rfl | exact ⟨rfl, hw'⟩
  simp only [Act.put, List.setIfInBounds_toArray, List.set_cons_succ, List.set_cons_zero]
  apply wpK_val
  · rfl
  · intro w' hw'
    go_simp
    first | exact rfl | exact ⟨rfl, hw'⟩
  simp only [Act.put, List.setIfInBounds_toArray, List.set_cons_succ, List.set_cons_zero]
  apply kldA tSe
  · rfl
  · rfl
  · exact fun w' hw' => hw'.c.head
  simp only [Act.put, List.setIfInBounds_toArray, List.set_cons_succ, List.set_cons_zero]
  apply kldA tSe
  · rfl
  · rfl
  · exact fun w' hw' => hw'.d.head
  simp only [Act.put, List.setIfInBounds_toArray, List.set_cons_succ, List.set_cons_zero]
  apply keqU true uSe eqg_se
  · rfl
  · rfl
  · rfl
  · exact eqA_yes fun _ _ => rfl
  simp only [Act.put, List.setIfInBounds_toArray, List.set_cons_succ, List.set_cons_zero]
  apply wpK_val
  · rfl
  · intro w' hw'
    go_simp
    first | exact rfl | exact ⟨rfl, hw'⟩
  simp only [Act.put, List.setIfInBounds_toArray, List.set_cons_succ, List.set_cons_zero]
  apply wpK_val
  · rfl
  · intro w' hw'
    go_simp
    first | exact rfl | exact ⟨rfl, hw'⟩
  simp only [Act.put, List.setIfInBounds_toArray, List.set_cons_succ, List.set_cons_zero]
  apply wpK_val
  · rfl
  · intro w' hw'
    go_simp
    first | exact rfl | exact ⟨rfl, hw'⟩
  simp only [Act.put, List.setIfInBounds_toArray, List.set_cons_succ, List.set_cons_zero]
  apply wpK_val
  · rfl
  · intro w' hw'
    go_simp
    first | exact rfl | exact ⟨rfl, hw'⟩
  simp only [Act.put, List.setIfInBounds_toArray, List.set_cons_succ, List.set_cons_zero]
  apply wpK_val
  · rfl
  · intro w' hw'
    go_simp
    first | exact rfl | exact ⟨rfl, hw'⟩
  simp only [Act.put, List.setIfInBounds_toArray, List.set_cons_succ, List.set_cons_zero]
  apply wpK_val
  · rfl
  · intro w' hw'
    go_simp
    first | exact rfl | exact ⟨rfl, hw'⟩
  simp only [Act.put, List.setIfInBounds_toArray, List.set_cons_succ, List.set_cons_zero]
  apply wpK_val
  · rfl
  · intro w' hw'
    go_simp
    first | exact rfl | exact ⟨rfl, hw'⟩
  simp only [Act.put, List.setIfInBounds_toArray, List.set_cons_succ, List.set_cons_zero]
  apply wpK_val
  · rfl
  · intro w' hw'
    go_simp
    first | exact rfl | exact ⟨rfl, hw'⟩
  simp only [Act.put, List.setIfInBounds_toArray, List.set_cons_succ, List.set_cons_zero]
  apply wpK_val
  · rfl
  · intro w' hw'
    go_simp
    exact (hC.touched hw'.j.prog).mono fun e w2 ⟨h1, h2⟩ => ⟨h1, hw'.below hC h2⟩
  simp only [Act.put, List.setIfInBounds_toArray, List.set_cons_succ, List.set_cons_zero]
  apply wpK_val
  · rfl
  · intro w' hw'
    go_simp
    first | exact rfl | exact ⟨rfl, hw'⟩
  simp only [Act.put, List.setIfInBounds_toArray, List.set_cons_succ, List.set_cons_zero]
  apply wpK_val
  · rfl
  · intro w' hw'
    go_simp
    first | exact rfl | exact ⟨rfl, hw'⟩
  simp only [Act.put, List.setIfInBounds_toArray, List.set_cons_succ, List.set_cons_zero]
  apply wpK_val
  · rfl
  · intro w' hw'
    go_simp
    first | exact rfl | exact ⟨rfl, hw'⟩
  simp only [Act.put, List.setIfInBounds_toArray, List.set_cons_succ, List.set_cons_zero]
  apply wpK_val
  · rfl
  · intro w' hw'
    have hcell := hw'.j.ref.fields.2.2.1
    go_simp
    first | exact rfl | exact ⟨rfl, hw'⟩
  simp only [Act.put, List.setIfInBounds_toArray, List.set_cons_succ, List.set_cons_zero]
  apply wpK_val
  · rfl
  · intro w' hw'
    go_simp
    first | exact rfl | exact ⟨rfl, hw'⟩
  simp only [Act.put, List.setIfInBounds_toArray, List.set_cons_succ, List.set_cons_zero]
  apply wpK_val
  · rfl
  · intro w' hw'
    go_simp
    first | exact rfl | exact ⟨rfl, hw'⟩
  simp only [Act.put, List.setIfInBounds_toArray, List.set_cons_succ, List.set_cons_zero]
  apply wpK_val
  · rfl
  · intro w' hw'
    go_simp
    first | exact rfl | exact ⟨rfl, hw'⟩
  simp only [Act.put, List.setIfInBounds_toArray, List.set_cons_succ, List.set_cons_zero]
  apply wpK_val
  · rfl
  · intro w' hw'
    go_simp
    first | exact rfl | exact ⟨rfl, hw'⟩
  simp only [Act.put, List.setIfInBounds_toArray, List.set_cons_succ, List.set_cons_zero]
  apply wpK_val
  · rfl
  · intro w' hw'
    go_simp
    exact (hC.unflushed hw'.j.prog).mono fun e w2 ⟨h1, h2⟩ => ⟨h1, hw'.below hC h2⟩
  simp only [Act.put, List.setIfInBounds_toArray, List.set_cons_succ, List.set_cons_zero]
  apply wpK_val
  · rfl
  · intro w' hw'
    go_simp
    first | exact rfl | exact ⟨rfl, hw'⟩
  simp only [Act.put, List.setIfInBounds_toArray, List.set_cons_succ, List.set_cons_zero]
  apply wpK_val
  · rfl
  · intro w' hw'
    go_simp
    first | exact rfl | exact ⟨rfl, hw'⟩
  simp only [Act.put, List.setIfInBounds_toArray, List.set_cons_succ, List.set_cons_zero]
  apply wpK_val
  · rfl
  · intro w' hw'
    go_simp
    first | exact rfl | exact ⟨rfl, hw'⟩
  simp only [Act.put, List.setIfInBounds_toArray, List.set_cons_succ, List.set_cons_zero]
  apply wpK_val
  · rfl
  · intro w' hw'
    have hcell := hw'.lg
    go_simp
    first | exact rfl | exact ⟨rfl, hw'⟩
  simp only [Act.put, List.setIfInBounds_toArray, List.set_cons_succ, List.set_cons_zero]
  apply wpK_val
  · rfl
  · intro w' hw'
    go_simp
    first | exact rfl | exact ⟨rfl, hw'⟩
  simp only [Act.put, List.setIfInBounds_toArray, List.set_cons_succ, List.set_cons_zero]
  apply wpK_val
  · rfl
  · intro w' hw'
    go_simp
    first | exact rfl | exact ⟨rfl, hw'⟩
  simp only [Act.put, List.setIfInBounds_toArray, List.set_cons_succ, List.set_cons_zero]
  apply wpK_val
  · rfl
  · intro w' hw'
    go_simp
    first | exact rfl | exact ⟨rfl, hw'⟩
  simp only [Act.put, List.setIfInBounds_toArray, List.set_cons_succ, List.set_cons_zero]
  apply wpK_val
  · rfl
  · intro w' hw'
    go_simp
    first | exact rfl | exact ⟨rfl, hw'⟩
  simp only [Act.put, List.setIfInBounds_toArray, List.set_cons_succ, List.set_cons_zero]
  apply wpK_val
  · rfl
  · intro w' hw'
    go_simp
    first | exact rfl | exact ⟨rfl, hw'⟩
  simp only [Act.put, List.setIfInBounds_toArray, List.set_cons_succ, List.set_cons_zero]
  apply wpK_val
  · rfl
  · intro w' hw'
    go_simp
    exact (hC.len hw'.j.prog).mono fun e w2 ⟨h1, h2⟩ => ⟨h1, hw'.below hC h2⟩
  simp only [Act.put, List.setIfInBounds_toArray, List.set_cons_succ, List.set_cons_zero]
  apply wpK_val
  · rfl
  · intro w' hw'
    go_simp
    first | exact rfl | exact ⟨rfl, hw'⟩
  simp only [Act.put, List.setIfInBounds_toArray, List.set_cons_succ, List.set_cons_zero]
  apply wpK_val
  · rfl
  · intro w' hw'
    go_simp
    first | exact rfl | exact ⟨rfl, hw'⟩
  simp only [Act.put, List.setIfInBounds_toArray, List.set_cons_succ, List.set_cons_zero]
  apply wpK_val
  · rfl
  · intro w' hw'
    go_simp
    first | exact rfl | exact ⟨rfl, hw'⟩
  simp only [Act.put, List.setIfInBounds_toArray, List.set_cons_succ, List.set_cons_zero]
  apply wpK_val
  · rfl
  · intro w' hw'
    have hcell := hw'.j.ref.fields.1
    go_simp
    first | exact rfl | exact ⟨rfl, hw'⟩
  simp only [Act.put, List.setIfInBounds_toArray, List.set_cons_succ, List.set_cons_zero]
  apply wpK_val
  · rfl
  · intro w' hw'
    go_simp
    first | exact rfl | exact ⟨rfl, hw'⟩
  simp only [Act.put, List.setIfInBounds_toArray, List.set_cons_succ, List.set_cons_zero]
  apply wpK_val
  · rfl
  · intro w' hw'
    go_simp
    first | exact rfl | exact ⟨rfl, hw'⟩
  simp only [Act.put, List.setIfInBounds_toArray, List.set_cons_succ, List.set_cons_zero]
  apply wpK_nil
  intro w9 h9
  have hb := h9.new
  clear h9 K8
  go_wp2_with fail
  refine bodyPost_ret (results_tmp (t := 6) rfl _ _ _) rfl ?_
  exact ⟨rfl, hb⟩
end MbP
end Go.Proofs.Yteglhalninlapaa
set_option maxRecDepth 100000
namespace Go.Proofs.Yteglhalninlapaa
open Go.ChangeShapes Go.WideShapes Go.ChangeAt Go.RowKit
attribute [local go_sem] Gives
namespace MbP
open MbM
set_option maxRecDepth 100000 in
theorem full_any (x : Nat) (hx : x < 256) (w : World) :
    Calls Try.prog 17 #[.int .u8 x] w fun e w' => e = .returned (.agg (ar 64 fun _ => x)) ∧ Below w.heap.size w w' := by
  go_enter Try.func17, Try.ntmps17
  go_upto_region 2 with (with_reducible apply alA tSe)
  generalize hw1 : World.alloc (World.alloc w _) _ = w1
  have b0 : Blk w1 w.heap.size 32 (ar 64 fun _ => 0) := by rw [← hw1]; exact (Blk.new _ _ _).alloc _
  have b1 : Blk w1 (w.heap.size + 1) 32 (ar 64 fun _ => 0) := by rw [← hw1]; exact Blk.top rfl (by simp)
  have hb : Below w.heap.size w w1 := by rw [← hw1]; exact ((Below.refl _ _).alloc (Nat.le_refl _) _).alloc (by simp) _
  clear hw1
  go_wp2_with fail
  go_loopw [4] (fun i wr => ∃ k : Nat, k ≤ 64 ∧ i = .int .i64 k ∧ Blk wr w.heap.size 32 (ar 64 fun _ => 0) ∧ Blk wr (w.heap.size + 1) 32 (ar 64 (upTo k (fun _ => 0) fun _ => x)) ∧ Below w.heap.size w wr) (fun i _ => 64 - (intOf i).toNat)
  case atStart => exact ⟨0, by omega, rfl, b0, by rw [upTo_zero]; exact b1, hb⟩
  case round =>
    clear b0 b1 hb
    obtain ⟨k, hk, rfl, b0, b1, hb⟩ := hrel
    by_cases hlt : k < 64
    · have c1 : wr.cell? ⟨w.heap.size + 1, k, none⟩ = some (.int .u8 (upTo k (fun _ => 0) (fun _ => x) k : Nat)) := by rw [b1.cell, get_ar hlt]
      have c3 := b1.frozen k
      go_wp2_with fail
      go_roundw
      case rel => exact ⟨k + 1, by omega, by go_num, b0.setCell_other (by simp) _, upTo_step (b1.setCell_same k _), hb.setCell (by simp) _⟩
      case measure => simp [intOf]; omega
    · have hs : Blk wr (w.heap.size + 1) 32 (ar 64 fun _ => x) := by rw [upTo_all (by omega)] at b1; exact b1
      clear b1
      go_wp2_with (first | ((with_reducible apply ldA tSe); rfl; assumption) | ((with_reducible apply stA tSe); rfl; rfl; assumption))
      apply ret_ar tSe Try.results17
      · rfl
      · rfl
      · exact b0.setRow_same _
      exact ⟨rfl, below_setRow hb (by omega) _⟩
/-- A member of the program's; all that it lays lies from block B on. -/
structure P1 (rep : RepT) (B : Nat) (w : World) (m : Nat) (M I : Nat → Prop) (k : Nat) (st : St) : Prop where
  prog : rep w m M I k st
  ok : st.ok
  low : ∀ b, M b ∨ I b → B ≤ b
  base : B ≤ w.heap.size
section
variable {rep : RepT} {B : Nat} {w w' : World} {m : Nat} {M I : Nat → Prop} {k : Nat} {st st' : St}
theorem P1.below (hC : MemC rep) (h : P1 rep B w m M I k st) (hb : Below w.heap.size w w') : P1 rep B w' m M I k st where
  prog := hC.frame h.prog (Turn.of_below hb) fun b hb' => by have := hC.lt h.prog b hb'; omega
  ok := h.ok
  low := h.low
  base := Nat.le_trans h.base hb.size
theorem P1.turn (hC : MemC rep) (h : P1 rep B w m M I k st) {T : Nat → Prop} (ht : Turn T w w') (hT : ∀ b, M b ∨ I b → ¬ T b) : P1 rep B w' m M I k st where
  prog := hC.frame h.prog ht hT
  ok := h.ok
  low := h.low
  base := Nat.le_trans h.base ht.size
theorem P1.mono {k' : Nat} (hC : MemC rep) (h : P1 rep B w m M I k st) (hk : k ≤ k') : P1 rep B w m M I k' st := ⟨hC.mono h.prog hk, h.ok, h.low, h.base⟩
/-- What a call may turn, and what may come to what is laid. -/
def Went (w : World) (M I : Nat → Prop) (w' : World) (M' I' : Nat → Prop) : Prop :=
  (∀ b, M' b → M b ∨ w.heap.size ≤ b) ∧ (∀ b, I' b → M b ∨ I b ∨ w.heap.size ≤ b) ∧ Turn M w w'
theorem Went.refl (w : World) (M I : Nat → Prop) : Went w M I w M I := ⟨fun _ h => .inl h, fun _ h => .inr (.inl h), Turn.refl _ _⟩
theorem Went.trans {w2 : World} {M' I' M2 I2 : Nat → Prop} (h : Went w M I w' M' I') (h2 : Went w' M' I' w2 M2 I2) : Went w M I w2 M2 I2 := by
  have hs := h.2.2.size
  refine ⟨fun b hb => ?_, fun b hb => ?_, h.2.2.trans h2.2.2 fun b hb => h.1 b hb⟩
  · rcases h2.1 b hb with e | e
    · exact h.1 b e
    · exact .inr (Nat.le_trans hs e)
  · rcases h2.2.1 b hb with e | e | e
    · rcases h.1 b e with e | e
      · exact .inl e
      · exact .inr (.inr e)
    · exact h.2.1 b e
    · exact .inr (.inr (Nat.le_trans hs e))
theorem Went.below (hb : Below w.heap.size w w') : Went w M I w' M I := ⟨fun _ h => .inl h, fun _ h => .inr (.inl h), Turn.of_new hb⟩
theorem P1.out (h : P1 rep B w m M I k st) {k' : Nat} (ho : outP rep w m M I k' st' w') (hok : st'.ok) : ∃ M' I', P1 rep B w' m M' I' k' st' ∧ Went w M I w' M' I' := by
  obtain ⟨M', I', h1, h2, h3, h4⟩ := ho
  refine ⟨M', I', ⟨h1, hok, fun b hb => ?_, Nat.le_trans h.base h4.size⟩, h2, h3, h4⟩
  rcases hb with hb | hb
  · rcases h2 b hb with e | e
    · exact h.low b (.inl e)
    · exact Nat.le_trans h.base e
  · rcases h3 b hb with e | e | e
    · exact h.low b (.inl e)
    · exact h.low b (.inr e)
    · exact Nat.le_trans h.base e
theorem P1.went {M' I' : Nat → Prop} (h : P1 rep B w m M I k st) (hw : Went w M I w' M' I') : Below B w w' := hw.2.2.below h.base fun b e => h.low b (.inl e)
/-- Another member's blocks are none of those that this one turns. -/
def Sep (M I N J : Nat → Prop) : Prop := (∀ b, M b → ¬ (N b ∨ J b)) ∧ ∀ b, N b → ¬ (M b ∨ I b)
theorem Sep.symm {M I N J : Nat → Prop} (h : Sep M I N J) : Sep N J M I := ⟨h.2, h.1⟩
theorem P1.aside {M' I' N J : Nat → Prop} {m2 k2 B2 : Nat} {st2 : St} (hC : MemC rep) (h2 : P1 rep B2 w m2 N J k2 st2) (hw : Went w M I w' M' I') (hs : Sep M I N J) : P1 rep B2 w' m2 N J k2 st2 ∧ Sep M' I' N J := by
  refine ⟨h2.turn hC hw.2.2 fun b hb e => hs.1 b e hb, fun b hb e => ?_, fun b hb e => ?_⟩
  · rcases hw.1 b hb with e2 | e2
    · exact hs.1 b e2 e
    · have := hC.lt h2.prog b e; omega
  · have hlt := hC.lt h2.prog b (.inl hb)
    rcases e with e | e
    · rcases hw.1 b e with e2 | e2
      · exact hs.2 b hb (.inl e2)
      · omega
    · rcases hw.2.1 b e with e2 | e2 | e2
      · exact hs.2 b hb (.inl e2)
      · exact hs.2 b hb (.inr e2)
      · omega
end
end MbP
end Go.Proofs.Yteglhalninlapaa
set_option maxRecDepth 100000
namespace Go.Proofs.Yteglhalninlapaa
section
variable {P : Program} {ops : Array Oper}
theorem wpK_list {C : World → Prop} {Q : Exit → Act → World → Prop} {rest : List Oper} : ∀ (l : List Oper) (a : Act) (w : World), wpK P ops C (fun a' => ∀ w', C w' → wpList P ops Q rest a' w') l a → C w → wpList P ops Q (l ++ rest) a w
  | [], _, w, h, hC => h w hC
  | o :: l, a, w, h, hC => by
    obtain ⟨v, h1, h2⟩ := h
    rw [List.cons_append, wpList]
    rcases h1 with ⟨hw, hg⟩ | ⟨hw, rfl⟩
    · rw [if_pos hw]
      exact .inl (wp_of_gives (hg w hC) fun w' hC' => wpK_list l _ w' h2 hC')
    · rw [if_neg (by rw [hw]; exact Bool.false_ne_true)]
      exact wpK_list l _ w h2 hC
theorem wp_region_fixed {id : Nat} {Q : Exit → Act → World → Prop} {C : World → Prop} {a : Act} {w : World} {l : List Oper} (n : Nat) (hC : C w)
    (h : wpK P l.toArray C (fun a' => ∀ w', C w' → wpList P l.toArray Q (l.drop n) a' w') (l.take n) a) : (Code.region id l.toArray false).wp P Q a w := by
  refine wp_region_lit ?_
  have := wpK_list _ _ _ h hC
  rwa [List.take_append_drop] at this
end
end Go.Proofs.Yteglhalninlapaa
set_option maxRecDepth 100000
namespace Go.Proofs.Yteglhalninlapaa
open Go.ChangeShapes Go.WideShapes Go.ChangeAt Go.RowKit
attribute [local go_sem] Gives
namespace MbP
open MbM
/-- Whether this is seen. -/
def sees (st : St) (i : Int) (x : Nat → Nat) : Bool := decide (rdE st i = 0) && eqA 64 (rdS st i) x
set_option maxHeartbeats 800000 in
set_option maxRecDepth 100000 in
theorem reads_any {rep : RepT} (hC : MemC rep) (m k : Nat) (M I : Nat → Prop) (st : St) (i : Int) (x : Nat → Nat) (hk : k ≤ 1000) (w : World) (h : rep w m M I k st) (hok : st.ok) :
    Calls Try.prog 19 #[at' m, .int .i64 i, .agg (ar 64 x)] w fun e w' => e = .returned (.bool (sees st i x)) ∧ Below w.heap.size w w' := by
  have H := hid h
  have HK := hid hk
  have HO := hid hok
  obtain ⟨q, hq⟩ : ∃ q, q = sees st i x := ⟨_, rfl⟩
  rw [← hq]
  unfold sees at hq
  obtain ⟨X, hX⟩ : ∃ X, X = rdS st i := ⟨_, rfl⟩
  obtain ⟨E, hE⟩ : ∃ E, E = rdE st i := ⟨_, rfl⟩
  rw [← hX, ← hE] at hq
  have HX := hid hX
  have HE := hid hE
  have HQ := hid hq
  clear h hk hok hX hE hq
  unfold at'
  go_enter Try.func19, Try.ntmps19
  go_upto_region 1 with fail
  generalize hw1 : World.alloc w _ = w1
  obtain ⟨g5, hg5⟩ : ∃ n, n = w.heap.size := ⟨_, rfl⟩
  have b1 := hid (show Blk w1 g5 32 (ar 64 x) by rw [← hw1, hg5]; exact Blk.new w _ _)
  have h1 : Below w.heap.size w w1 := by rw [← hw1]; exact (Below.refl _ _).alloc (Nat.le_refl _) _
  have H1 := hid (hC.frame H.out (Turn.of_below h1) fun b hb' => by have := hC.lt H.out b hb'; omega)
  have B1 := hid h1
  rw [← hg5]
  clear hw1 hg5 h1 H
  go_wp2_with fail
  refine (hC.read H1.out HO.out HK.out i).mono ?_
  rintro e w2 ⟨rfl, h2⟩
  rw [← HX.out, ← HE.out]
  have b2 := hid (b1.out.below h2 b1.out.lt)
  have B2 := hid (B1.out.trans (h2.mono B1.out.size))
  clear b1 B1 H1 h2 HX HE
  go_upto_region 2 with (first | (with_reducible apply alA tSe) | ((with_reducible apply stA tSe); rfl; rfl; exact Blk.new _ _ _))
  generalize hw3 : World.setRow _ _ _ = w3
  obtain ⟨g7, hg7⟩ : ∃ n, n = w2.heap.size := ⟨_, rfl⟩
  have h3 : Below w2.heap.size w2 w3 := by rw [← hw3]; exact below_setRow ((Below.refl _ _).alloc (Nat.le_refl _) _) (Nat.le_refl _) _
  have a3 := hid (show Blk w3 g7 32 (ar 64 X) by rw [← hw3, hg7]; exact (Blk.new w2 _ _).setRow_same _)
  have b3 := hid (b2.out.below h3 b2.out.lt)
  have B3 := hid (B2.out.trans (h3.mono B2.out.size))
  rw [← hg7]
  clear hw3 hg7 h3 b2 B2
  refine wp_region_fixed (C := fun w' => Below w3.heap.size w3 w') 7 (Below.refl _ _) ?_
  simp only [List.take_succ_cons, List.take_zero, List.drop_succ_cons, List.drop_zero]
  by_cases he : E = 0
  · have te : (E == 0) = true := by simp [he]
    have hq : q = eqA 64 X x := by rw [HQ.out]; simp [he]
    clear he HQ
    subst hq
    apply wpK_val
    · rfl
    · intro w' hw'
      go_simp
      first | exact rfl | exact ⟨rfl, hw'⟩
    simp only [Act.put, List.setIfInBounds_toArray, List.set_cons_succ, List.set_cons_zero]
    apply wpK_val
    · rfl
    · intro w' hw'
      go_simp
      first | exact rfl | exact ⟨rfl, hw'⟩
    simp only [Act.put, List.setIfInBounds_toArray, List.set_cons_succ, List.set_cons_zero]
    apply wpK_val
    · rfl
    · intro w' hw'
      go_simp
      first | exact rfl | exact ⟨rfl, hw'⟩
    simp only [Act.put, List.setIfInBounds_toArray, List.set_cons_succ, List.set_cons_zero]
    apply kldA tSe
    · rfl
    · rfl
    · exact fun w' hw' => (a3.out.below hw' a3.out.lt).head
    simp only [Act.put, List.setIfInBounds_toArray, List.set_cons_succ, List.set_cons_zero]
    apply kldA tSe
    · rfl
    · rfl
    · exact fun w' hw' => (b3.out.below hw' b3.out.lt).head
    simp only [Act.put, List.setIfInBounds_toArray, List.set_cons_succ, List.set_cons_zero]
    apply keqU (eqA 64 X x) uSe eqg_se
    · rfl
    · rfl
    · rfl
    · exact rfl
    simp only [Act.put, List.setIfInBounds_toArray, List.set_cons_succ, List.set_cons_zero]
    apply wpK_val
    · rfl
    · intro w' hw'
      go_simp
      first | exact rfl | exact ⟨rfl, hw'⟩
    simp only [Act.put, List.setIfInBounds_toArray, List.set_cons_succ, List.set_cons_zero]
    apply wpK_nil
    intro w4 h4
    have hb := B3.out.trans (h4.mono B3.out.size)
    clear h4
    go_wp2_with fail
    refine bodyPost_ret (results_tmp (t := 6) rfl _ _ _) rfl ?_
    exact ⟨rfl, hb⟩
  · have te : (E == 0) = false := by simp [he]
    have hq : q = false := by rw [HQ.out]; simp [he]
    clear he HQ
    subst hq
    apply wpK_val
    · rfl
    · intro w' hw'
      go_simp
      first | exact rfl | exact ⟨rfl, hw'⟩
    simp only [Act.put, List.setIfInBounds_toArray, List.set_cons_succ, List.set_cons_zero]
    apply wpK_val
    · rfl
    · intro w' hw'
      go_simp
      first | exact rfl | exact ⟨rfl, hw'⟩
    simp only [Act.put, List.setIfInBounds_toArray, List.set_cons_succ, List.set_cons_zero]
    apply wpK_val
    · rfl
    · intro w' hw'
      go_simp
      first | exact rfl | exact ⟨rfl, hw'⟩
    simp only [Act.put, List.setIfInBounds_toArray, List.set_cons_succ, List.set_cons_zero]
    apply wpK_not
    · rfl
    simp only [Act.put, List.setIfInBounds_toArray, List.set_cons_succ, List.set_cons_zero]
    apply wpK_not
    · rfl
    simp only [Act.put, List.setIfInBounds_toArray, List.set_cons_succ, List.set_cons_zero]
    apply wpK_not
    · rfl
    simp only [Act.put, List.setIfInBounds_toArray, List.set_cons_succ, List.set_cons_zero]
    apply wpK_val
    · rfl
    · intro w' hw'
      go_simp
      first | exact rfl | exact ⟨rfl, hw'⟩
    simp only [Act.put, List.setIfInBounds_toArray, List.set_cons_succ, List.set_cons_zero]
    apply wpK_nil
    intro w4 h4
    have hb := B3.out.trans (h4.mono B3.out.size)
    clear h4
    go_wp2_with fail
    refine bodyPost_ret (results_tmp (t := 6) rfl _ _ _) rfl ?_
    exact ⟨rfl, hb⟩
end MbP
end Go.Proofs.Yteglhalninlapaa
set_option maxRecDepth 100000
namespace Go.Proofs.Yteglhalninlapaa
open Go.ChangeShapes Go.WideShapes Go.ChangeAt Go.RowKit
attribute [local go_sem] Gives
section
variable {P : Program} {ops : Array Oper} {C : World → Prop} {Q : Exit → Act → World → Prop} {a : Act} {w : World} {l rest : List Oper} {o : Oper} {v : Value} {R : World → Prop}
theorem wpK_at (n : Nat) (hC : C w) (h : wpK P ops C (fun a' => ∀ w', C w' → wpList P ops Q (l.drop n) a' w') (l.take n) a) : wpList P ops Q l a w := by
  have := wpK_list _ _ _ h hC
  rwa [List.take_append_drop] at this
theorem wpL_val (hw : Region.wanted o (yielded ops a.tmps) = true) (hg : Gives P o a w v R) (h : ∀ w', R w' → wpList P ops Q rest (a.put o.dst v) w') : wpList P ops Q (o :: rest) a w := by
  rw [wpList, if_pos hw]
  exact .inl (wp_of_gives hg h)
end
namespace MbP
open MbM
def f1 : Nat → Nat := fun _ => 1
theorem aw_1 : rdE (wrT (made 4) 1 f1) 1 = 0 ∧ rdS (wrT (made 4) 1 f1) 1 = f1 ∧ lkE (wrT (made 4) 1 f1) 1 = 0 ∧ lkS (wrT (made 4) 1 f1) 1 = zero ∧ (wrT (made 4) 1 f1).log.length = 1 ∧ rdE (made 4) 1 = 0 := ⟨rfl, rfl, rfl, rfl, rfl, rfl⟩
theorem aw_2 : rdE (crash (wrT (made 4) 1 f1) []) 1 = 0 ∧ rdS (crash (wrT (made 4) 1 f1) []) 1 = zero := ⟨rfl, rfl⟩
theorem sees_1 : sees (wrT (made 4) 1 f1) 1 f1 = true := by
  unfold sees
  rw [aw_1.1, aw_1.2.1]
  rw [Bool.and_eq_true]
  exact ⟨rfl, eqA_yes fun _ _ => rfl⟩
theorem sees_2 : sees (crash (wrT (made 4) 1 f1) []) 1 zero = true := by
  unfold sees
  rw [aw_2.1, aw_2.2]
  rw [Bool.and_eq_true]
  exact ⟨rfl, eqA_yes fun _ _ => rfl⟩
theorem f1_lt (j : Nat) : f1 j < 256 := by unfold f1; omega
theorem arg_nil (w : World) : Arg w none [] 0 0 := ⟨rfl, Nat.le_refl _, Nat.zero_le _, (fun x hx => by cases hx), fun _ => ⟨rfl, rfl⟩, Byt.none rfl⟩
theorem built_se (w : World) : (Instr.build 32 #[]).run Try.prog w = .ok (.agg (ar 64 zero)) w :=
  run_build w _ _ _ (by kernel_rfl)
set_option maxHeartbeats 800000 in
set_option maxRecDepth 100000 in
theorem awake_any {rep : RepT} (hC : MemC rep) (w : World) :
    Calls Try.prog 9 #[] w fun e w' => e = .returned (.bool true) ∧ Below w.heap.size w w' := by
  go_enter Try.func9, Try.ntmps9
  go_wp2_with fail
  refine (hC.new 4 (by omega) (by omega) w).mono ?_
  rintro e w1 ⟨m, M, I, rfl, hr, hMI, h1⟩
  have P := hid (show P1 rep w.heap.size w1 m M I 0 (made 4) from ⟨hr, made_ok 4, hMI, h1.size⟩)
  have B1 := hid h1
  clear hr hMI h1
  unfold at'
  go_wp2_with fail
  refine (full_any 1 (by omega) w1).mono ?_
  rintro e w2 ⟨rfl, h2⟩
  have P2 := hid (P.out.below hC h2)
  have B2 := hid (B1.out.trans (h2.mono B1.out.size))
  clear P B1 h2
  go_wp2_with fail
  refine (hC.write P2.out.prog P2.out.ok (by omega) 1 f1 f1_lt).mono ?_
  rintro e w3 ⟨rfl, ho⟩
  rw [aw_1.2.2.2.2.2]
  obtain ⟨M3, I3, p3, g3⟩ := P2.out.out ho (wr_ok P2.out.ok 1 f1_lt)
  have P3 := hid p3
  have B3 := hid (B2.out.trans (P2.out.went g3))
  clear ho p3 g3 P2 B2
  go_wp2_with fail
  refine (hC.look P3.out.prog P3.out.ok (by omega) 1).mono ?_
  rintro e w4 ⟨rfl, h4⟩
  rw [aw_1.2.2.1, aw_1.2.2.2.1]
  have P4 := hid (P3.out.below hC h4)
  have B4 := hid (B3.out.trans (h4.mono B3.out.size))
  clear P3 B3 h4
  go_upto_region 6 with (first | (with_reducible apply alA tSe) | ((with_reducible apply stA tSe); rfl; rfl; exact Blk.new _ _ _))
  generalize hw5 : World.setRow _ _ _ = w5
  obtain ⟨g4, hg4⟩ : ∃ n, n = w4.heap.size := ⟨_, rfl⟩
  have h5 : Below w4.heap.size w4 w5 := by rw [← hw5]; exact below_setRow ((Below.refl _ _).alloc (Nat.le_refl _) _) (Nat.le_refl _) _
  have a5 := hid (show Blk w5 g4 32 (ar 64 zero) by rw [← hw5, hg4]; exact (Blk.new w4 _ _).setRow_same _)
  have P5 := hid (P4.out.below hC h5)
  have B5 := hid (B4.out.trans (h5.mono B4.out.size))
  rw [← hg4]
  clear hw5 hg4 h5 P4 B4
  refine wp_region_fixed (C := fun w' => Below w5.heap.size w5 w') 23 (Below.refl _ _) ?_
  simp only [List.take_succ_cons, List.take_zero, List.drop_succ_cons, List.drop_zero]
  apply wpK_val
  · rfl
  · intro w' hw'
    go_simp
    first | exact rfl | exact ⟨rfl, hw'⟩
  simp only [Act.put, List.setIfInBounds_toArray, List.set_cons_succ, List.set_cons_zero]
  apply wpK_val
  · rfl
  · intro w' hw'
    go_simp
    first | exact rfl | exact ⟨rfl, hw'⟩
  simp only [Act.put, List.setIfInBounds_toArray, List.set_cons_succ, List.set_cons_zero]
  apply wpK_val
  · rfl
  · intro w' hw'
    go_simp
    first | exact rfl | exact ⟨rfl, hw'⟩
  simp only [Act.put, List.setIfInBounds_toArray, List.set_cons_succ, List.set_cons_zero]
  apply wpK_val
  · rfl
  · intro w' hw'
    go_simp
    first | exact rfl | exact ⟨rfl, hw'⟩
  simp only [Act.put, List.setIfInBounds_toArray, List.set_cons_succ, List.set_cons_zero]
  apply wpK_val
  · rfl
  · intro w' hw'
    go_simp
    first | exact rfl | exact ⟨rfl, hw'⟩
  simp only [Act.put, List.setIfInBounds_toArray, List.set_cons_succ, List.set_cons_zero]
  apply wpK_val
  · rfl
  · intro w' hw'
    go_simp
    first | exact rfl | exact ⟨rfl, hw'⟩
  simp only [Act.put, List.setIfInBounds_toArray, List.set_cons_succ, List.set_cons_zero]
  apply wpK_val
  · rfl
  · intro w' hw'
    go_simp
    first | exact rfl | exact ⟨rfl, hw'⟩
  simp only [Act.put, List.setIfInBounds_toArray, List.set_cons_succ, List.set_cons_zero]
  apply wpK_val
  · rfl
  · intro w' hw'
    go_simp
    first | exact rfl | exact ⟨rfl, hw'⟩
  simp only [Act.put, List.setIfInBounds_toArray, List.set_cons_succ, List.set_cons_zero]
  apply wpK_val
  · rfl
  · intro w' hw'
    go_simp
    exact (full_any 1 (by omega) w').mono fun e w2 h => ⟨h.1, hw'.trans (h.2.mono hw'.size)⟩
  simp only [Act.put, List.setIfInBounds_toArray, List.set_cons_succ, List.set_cons_zero]
  apply wpK_val
  · rfl
  · intro w' hw'
    go_simp
    exact (show Calls Try.prog _ _ w' fun e w2 => e = .returned (.bool true) ∧ Below w5.heap.size w5 w2 from (reads_any hC m 1 M3 I3 _ 1 f1 (by omega) w' (P5.out.below hC hw').prog P5.out.ok).mono fun e w2 h => ⟨by rw [← sees_1]; exact h.1, hw'.trans (h.2.mono hw'.size)⟩)
  simp only [Act.put, List.setIfInBounds_toArray, List.set_cons_succ, List.set_cons_zero]
  apply wpK_val
  · rfl
  · intro w' hw'
    go_simp
    first | exact rfl | exact ⟨rfl, hw'⟩
  simp only [Act.put, List.setIfInBounds_toArray, List.set_cons_succ, List.set_cons_zero]
  apply wpK_val
  · rfl
  · intro w' hw'
    go_simp
    first | exact rfl | exact ⟨rfl, hw'⟩
  simp only [Act.put, List.setIfInBounds_toArray, List.set_cons_succ, List.set_cons_zero]
  apply kldA tSe
  · rfl
  · rfl
  · exact fun w' hw' => (a5.out.below hw' a5.out.lt).head
  simp only [Act.put, List.setIfInBounds_toArray, List.set_cons_succ, List.set_cons_zero]
  apply kbldZ (hb := built_se)
  · rfl
  simp only [Act.put, List.setIfInBounds_toArray, List.set_cons_succ, List.set_cons_zero]
  apply keqU true uSe eqg_se
  · rfl
  · rfl
  · rfl
  · exact eqA_yes fun _ _ => rfl
  simp only [Act.put, List.setIfInBounds_toArray, List.set_cons_succ, List.set_cons_zero]
  apply wpK_val
  · rfl
  · intro w' hw'
    go_simp
    first | exact rfl | exact ⟨rfl, hw'⟩
  simp only [Act.put, List.setIfInBounds_toArray, List.set_cons_succ, List.set_cons_zero]
  apply wpK_val
  · rfl
  · intro w' hw'
    go_simp
    first | exact rfl | exact ⟨rfl, hw'⟩
  simp only [Act.put, List.setIfInBounds_toArray, List.set_cons_succ, List.set_cons_zero]
  apply wpK_val
  · rfl
  · intro w' hw'
    go_simp
    first | exact rfl | exact ⟨rfl, hw'⟩
  simp only [Act.put, List.setIfInBounds_toArray, List.set_cons_succ, List.set_cons_zero]
  apply wpK_val
  · rfl
  · intro w' hw'
    go_simp
    exact (show Calls Try.prog _ _ w' fun e w2 => e = .returned (.int .i64 1) ∧ Below w5.heap.size w5 w2 from (hC.unflushed (P5.out.below hC hw').prog).mono fun e w2 h => ⟨by rw [aw_1.2.2.2.2.1] at h; exact h.1, hw'.trans (h.2.mono hw'.size)⟩)
  simp only [Act.put, List.setIfInBounds_toArray, List.set_cons_succ, List.set_cons_zero]
  apply wpK_val
  · rfl
  · intro w' hw'
    go_simp
    first | exact rfl | exact ⟨rfl, hw'⟩
  simp only [Act.put, List.setIfInBounds_toArray, List.set_cons_succ, List.set_cons_zero]
  apply wpK_val
  · rfl
  · intro w' hw'
    go_simp
    first | exact rfl | exact ⟨rfl, hw'⟩
  simp only [Act.put, List.setIfInBounds_toArray, List.set_cons_succ, List.set_cons_zero]
  apply wpK_val
  · rfl
  · intro w' hw'
    go_simp
    first | exact rfl | exact ⟨rfl, hw'⟩
  simp only [Act.put, List.setIfInBounds_toArray, List.set_cons_succ, List.set_cons_zero]
  apply wpK_val
  · rfl
  · intro w' hw'
    go_simp
    first | exact rfl | exact ⟨rfl, hw'⟩
  simp only [Act.put, List.setIfInBounds_toArray, List.set_cons_succ, List.set_cons_zero]
  apply wpK_nil
  intro w6 h6
  have P6 := hid (P5.out.below hC h6)
  have B6 := hid (B5.out.trans (h6.mono B5.out.size))
  clear h6 P5 B5
  refine wpL_val (v := .int .i64 0) (R := outP rep w6 m M3 I3 2 (crash (wrT (made 4) 1 f1) [])) rfl ?_ ?_
  · go_simp
    exact (hC.crash P6.out.prog P6.out.ok (by omega) none [] 0 0 (arg_nil w6) (fun _ _ _ e => by cases e)).mono fun e w2 h => h
  intro w7 ho
  obtain ⟨M7, I7, p7, g7⟩ := P6.out.out ho (cr_ok P6.out.ok [])
  have P7 := hid p7
  have B7 := hid (B6.out.trans (P6.out.went g7))
  clear ho p7 g7 P6 B6
  simp only [Act.put, List.setIfInBounds_toArray, List.set_cons_succ, List.set_cons_zero]
  refine wpK_at (C := fun w' => Below w7.heap.size w7 w') 7 (Below.refl _ _) ?_
  simp only [List.take_succ_cons, List.take_zero, List.drop_succ_cons, List.drop_zero]
  apply wpK_val
  · rfl
  · intro w' hw'
    go_simp
    first | exact rfl | exact ⟨rfl, hw'⟩
  simp only [Act.put, List.setIfInBounds_toArray, List.set_cons_succ, List.set_cons_zero]
  apply wpK_val
  · rfl
  · intro w' hw'
    go_simp
    first | exact rfl | exact ⟨rfl, hw'⟩
  simp only [Act.put, List.setIfInBounds_toArray, List.set_cons_succ, List.set_cons_zero]
  apply wpK_val
  · rfl
  · intro w' hw'
    go_simp
    first | exact rfl | exact ⟨rfl, hw'⟩
  simp only [Act.put, List.setIfInBounds_toArray, List.set_cons_succ, List.set_cons_zero]
  apply wpK_val
  · rfl
  · intro w' hw'
    go_simp
    first | exact rfl | exact ⟨rfl, hw'⟩
  simp only [Act.put, List.setIfInBounds_toArray, List.set_cons_succ, List.set_cons_zero]
  apply kbldZ (hb := built_se)
  · rfl
  simp only [Act.put, List.setIfInBounds_toArray, List.set_cons_succ, List.set_cons_zero]
  apply wpK_val
  · rfl
  · intro w' hw'
    go_simp
    exact (show Calls Try.prog _ _ w' fun e w2 => e = .returned (.bool true) ∧ Below w7.heap.size w7 w2 from (reads_any hC m 2 M7 I7 _ 1 zero (by omega) w' (P7.out.below hC hw').prog P7.out.ok).mono fun e w2 h => ⟨by rw [← sees_2]; exact h.1, hw'.trans (h.2.mono hw'.size)⟩)
  simp only [Act.put, List.setIfInBounds_toArray, List.set_cons_succ, List.set_cons_zero]
  apply wpK_val
  · rfl
  · intro w' hw'
    go_simp
    first | exact rfl | exact ⟨rfl, hw'⟩
  simp only [Act.put, List.setIfInBounds_toArray, List.set_cons_succ, List.set_cons_zero]
  apply wpK_nil
  intro w8 h8
  have hb := B7.out.trans (h8.mono B7.out.size)
  clear h8
  go_wp2_with fail
  refine bodyPost_ret (results_tmp (t := 0) rfl _ _ _) rfl ?_
  exact ⟨rfl, hb⟩
end MbP
end Go.Proofs.Yteglhalninlapaa
set_option maxRecDepth 100000
namespace Go.Proofs.Yteglhalninlapaa
open Go.ChangeShapes Go.WideShapes Go.ChangeAt Go.RowKit
attribute [local go_sem] Gives
namespace MbP
open MbM
abbrev Ent := Int × (Nat → Nat)
def look : List Ent → Int → Nat → Option (Nat × (Nat → Nat))
  | [], _, _ => none
  | p :: l, i, n => if p.1 = i then some (n, p.2) else look l i (n + 1)
def putE : List Ent → Int → (Nat → Nat) → List Ent
  | [], i, s => [(i, s)]
  | p :: l, i, s => if p.1 = i then (i, s) :: l else p :: putE l i s
def delE : List Ent → Int → List Ent
  | [], _ => []
  | p :: l, i => if p.1 = i then l else p :: delE l i
def getE : List Ent → Int → Nat → Nat
  | [], _ => zero
  | p :: l, i => if p.1 = i then p.2 else getE l i
theorem look_get (i : Int) : ∀ (l : List Ent) (n : Nat), ((look l i n).map (·.2)).getD zero = getE l i
  | [], n => rfl
  | p :: l, n => by
    unfold look getE
    split
    · rfl
    · exact look_get i l (n + 1)
theorem look_some {i : Int} : ∀ {l : List Ent} {n : Nat} {q : Nat × (Nat → Nat)}, look l i n = some q → ∃ d, q.1 = n + d ∧ l[d]? = some (i, q.2) ∧ (∀ s, l.set d (i, s) = putE l i s) ∧ l.eraseIdx d = delE l i
  | [], n, q, h => by cases h
  | p :: l, n, q, h => by
    unfold look at h
    by_cases e : p.1 = i
    · rw [if_pos e] at h
      cases h
      refine ⟨0, rfl, ?_, fun s => ?_, ?_⟩
      · show some p = _; rw [← e]
      · show _ :: _ = _; unfold putE; rw [if_pos e]
      · show l = _; unfold delE; rw [if_pos e]
    · rw [if_neg e] at h
      obtain ⟨d, h1, h2, h3, h4⟩ := look_some h
      refine ⟨d + 1, by omega, h2, fun s => ?_, ?_⟩
      · rw [List.set_cons_succ, h3, putE, if_neg e]
      · rw [List.eraseIdx_cons_succ, h4, delE, if_neg e]
theorem look_none {i : Int} : ∀ {l : List Ent} {n : Nat}, look l i n = none → (∀ s, putE l i s = l ++ [(i, s)]) ∧ delE l i = l
  | [], n, h => ⟨fun s => rfl, rfl⟩
  | p :: l, n, h => by
    unfold look at h
    by_cases e : p.1 = i
    · rw [if_pos e] at h; cases h
    · rw [if_neg e] at h
      obtain ⟨h1, h2⟩ := look_none h
      exact ⟨fun s => by rw [putE, if_neg e, h1]; rfl, by rw [delE, if_neg e, h2]⟩
theorem get_put (i : Int) (s : Nat → Nat) (j : Int) : ∀ l : List Ent, getE (putE l i s) j = if j = i then s else getE l j
  | [] => by
    unfold putE getE getE
    by_cases e : j = i
    · rw [if_pos e.symm, if_pos e]
    · rw [if_neg fun h => e h.symm, if_neg e]
  | p :: l => by
    unfold putE
    by_cases e : p.1 = i
    · rw [if_pos e]
      unfold getE
      by_cases h : j = i
      · rw [if_pos h.symm, if_pos h]
      · rw [if_neg fun x => h x.symm, if_neg h, if_neg fun x => h (x.symm.trans e)]
    · rw [if_neg e]
      unfold getE
      by_cases h : p.1 = j
      · rw [if_pos h, if_pos h, if_neg fun x => e (h.trans x)]
      · rw [if_neg h, if_neg h]; exact get_put i s j l
theorem get_out {i : Int} : ∀ {l : List Ent}, i ∉ l.map (·.1) → getE l i = zero
  | [], _ => rfl
  | p :: l, h => by
    rw [List.map_cons, List.mem_cons, not_or] at h
    unfold getE
    rw [if_neg fun e => h.1 e.symm]
    exact get_out h.2
theorem get_del (i j : Int) : ∀ l : List Ent, (l.map (·.1)).Nodup → getE (delE l i) j = if j = i then zero else getE l j
  | [], _ => by unfold delE getE; split <;> rfl
  | p :: l, h => by
    rw [List.map_cons, List.nodup_cons] at h
    unfold delE
    by_cases e : p.1 = i
    · rw [if_pos e]
      by_cases hj : j = i
      · rw [if_pos hj, hj]; exact get_out (e ▸ h.1)
      · rw [if_neg hj]
        conv => rhs; unfold getE
        rw [if_neg fun x => hj (x.symm.trans e)]
    · rw [if_neg e]
      unfold getE
      by_cases hp : p.1 = j
      · rw [if_pos hp, if_pos hp, if_neg fun x => e (hp.trans x)]
      · rw [if_neg hp, if_neg hp]; exact get_del i j l h.2
theorem del_sub (i : Int) : ∀ l : List Ent, (delE l i).Sublist l
  | [] => List.Sublist.refl _
  | p :: l => by
    unfold delE
    split
    · exact List.sublist_cons_self p l
    · exact (del_sub i l).cons_cons p
theorem nodup_del {i : Int} {l : List Ent} (h : (l.map (·.1)).Nodup) : ((delE l i).map (·.1)).Nodup := List.Nodup.sublist ((del_sub i l).map _) h
theorem mem_put {i k : Int} {s : Nat → Nat} : ∀ {l : List Ent}, k ∈ (putE l i s).map (·.1) → k = i ∨ k ∈ l.map (·.1)
  | [], h => by simpa [putE] using h
  | p :: l, h => by
    unfold putE at h
    by_cases e : p.1 = i
    · rw [if_pos e, List.map_cons, List.mem_cons] at h
      exact h.imp id fun x => List.mem_cons_of_mem _ x
    · rw [if_neg e, List.map_cons, List.mem_cons] at h
      rcases h with h | h
      · exact .inr (by rw [List.map_cons, h]; exact List.mem_cons_self)
      · exact (mem_put h).imp id fun x => List.mem_cons_of_mem _ x
theorem nodup_put {i : Int} {s : Nat → Nat} : ∀ {l : List Ent}, (l.map (·.1)).Nodup → ((putE l i s).map (·.1)).Nodup
  | [], _ => by simp [putE]
  | p :: l, h => by
    rw [List.map_cons, List.nodup_cons] at h
    unfold putE
    by_cases e : p.1 = i
    · rw [if_pos e, List.map_cons, List.nodup_cons]
      exact ⟨e ▸ h.1, h.2⟩
    · rw [if_neg e, List.map_cons, List.nodup_cons]
      exact ⟨fun x => (mem_put x).elim e h.1, nodup_put h.2⟩
/-- What is keyed, and by what. -/
def kvE (e : MapEntry) : Value × Value := (e.key, e.val)
def kvP (p : Ent) : Value × Value := (.int .i64 p.1, .agg (ar 64 p.2))
theorem find_now (i : Int) : ∀ (es : List MapEntry) (l : List Ent) (n : Nat), es.map kvE = l.map kvP → Instr.findNow (.int .i64) (.int .i64 i) es n = some ((look l i n).map fun q => (q.1, Value.agg (ar 64 q.2)))
  | [], [], n, _ => rfl
  | [], _ :: _, n, h => by simp at h
  | _ :: _, [], n, h => by simp at h
  | e :: es, p :: l, n, h => by
    simp only [List.map_cons, List.cons.injEq] at h
    obtain ⟨h1, h2⟩ := h
    have hk : e.key = .int .i64 p.1 := congrArg Prod.fst h1
    have hv : e.val = .agg (ar 64 p.2) := congrArg Prod.snd h1
    unfold Instr.findNow look
    rw [hk, hv]
    by_cases e' : p.1 = i
    · have : (i == p.1) = true := by simp [e']
      simp [Instr.sameNow, this, e']
    · have : (i == p.1) = false := by simp; exact fun h => e' h.symm
      simp only [Instr.sameNow, this, if_neg e', if_true]
      exact find_now i es l (n + 1) h2
/-- Block r is a map of sectors that reads as F. -/
def MapB (w : World) (r : Nat) (F : Img) : Prop := ∃ es clock l, w.heap[r]? = some (.map es clock) ∧ es.toList.map kvE = l.map kvP ∧ (l.map (·.1)).Nodup ∧ ∀ i k, k < 64 → getE l i k = F i k
section
variable {w w' : World} {r : Nat} {F G : Img} {T : Nat → Prop}
theorem MapB.lt (h : MapB w r F) : r < w.heap.size := by
  obtain ⟨es, c, l, h1, _⟩ := h
  exact (Array.getElem?_eq_some_iff.1 h1).1
theorem MapB.turn (h : MapB w r F) (ht : Turn T w w') (hr : ¬ T r) : MapB w' r F := by
  have hl := h.lt
  obtain ⟨es, c, l, h1, h2⟩ := h
  exact ⟨es, c, l, (ht.block r hl hr).trans h1, h2⟩
theorem MapB.below (h : MapB w r F) (hb : Below w.heap.size w w') : MapB w' r F := h.turn (Turn.of_below hb) (by have := h.lt; omega)
theorem MapB.congr (h : MapB w r F) (e : ∀ i k, k < 64 → F i k = G i k) : MapB w r G := by
  obtain ⟨es, c, l, h1, h2, h3, h4⟩ := h
  exact ⟨es, c, l, h1, h2, h3, fun i k hk => (h4 i k hk).trans (e i k hk)⟩
theorem MapB.new (w : World) : MapB (w.alloc (.map #[] 0)) w.heap.size fun _ => zero := ⟨#[], 0, [], heap_alloc_new w _, rfl, List.nodup_nil, fun _ _ _ => rfl⟩
theorem MapB.twin (h : MapB w r F) : ∃ es clock, w.heap[r]? = some (.map es clock) ∧ ∀ w' r', w'.heap[r']? = some (.map es clock) → MapB w' r' F := by
  obtain ⟨es, c, l, h1, h2⟩ := h
  exact ⟨es, c, h1, fun w' r' e => ⟨es, c, l, e, h2⟩⟩
theorem ar_get {l : List Ent} {F : Img} (h : ∀ i k, k < 64 → getE l i k = F i k) (i : Int) : ar 64 (getE l i) = ar 64 (F i) := ar_ext fun k hk => h i k hk
end
theorem undImg : Try.prog.underlying 54 = some (.map 3 32) := Try.underlying54
theorem undInt : Try.prog.underlying 3 = some (.int .i64) := Try.underlying3
section
variable {w : World} {r : Nat} {F : Img}
theorem run_chk' (b : Bool) (n : Nat) (i : Int) (w : World) : (Instr.checkKey b (n + 1) 3 (.int .i64 i)).run Try.prog w = .ok () w := by
  unfold Instr.checkKey
  simp [run_underlying undInt, Result.andThen]
theorem run_chk (b : Bool) (i : Int) (w : World) : (Instr.checkKey b 10000 3 (.int .i64 i)).run Try.prog w = .ok () w := run_chk' b 9999 i w
theorem map_mod {α β : Type} {f : α → β} {g : α → α} {v : β} (hg : ∀ x, f (g x) = v) : ∀ (l : List α) (d : Nat), (l.modify d g).map f = (l.map f).set d v
  | [], d => by simp
  | x :: l, 0 => by simp [hg]
  | x :: l, d + 1 => by simp [map_mod hg l d]
theorem map_era {α β : Type} (f : α → β) : ∀ (l : List α) (d : Nat), (l.eraseIdx d).map f = (l.map f).eraseIdx d
  | [], d => by simp
  | x :: l, 0 => by simp
  | x :: l, d + 1 => by simp [map_era f l d]
theorem run_find {es : Array MapEntry} {l : List Ent} (h : es.toList.map kvE = l.map kvP) (i : Int) (w : World) : (Instr.findKey 3 (.int .i64 i) es.toList).run Try.prog w = .ok ((look l i 0).map fun q => (q.1, Value.agg (ar 64 q.2))) w := by
  simp [Instr.findKey, run_underlying undInt, Result.andThen, find_now i es.toList l 0 h]
theorem run_look (h : MapB w r F) (i : Int) : (Instr.lookup 54 (.map (some r)) (.int .i64 i) false).run Try.prog w = .ok (.agg (ar 64 (F i))) w := by
  obtain ⟨es, c, l, h1, h2, h3, h4⟩ := h
  have e := look_get i l 0
  cases hl : look l i 0 with
  | none =>
    rw [hl] at e
    have e2 : zero = getE l i := e
    have e3 : ar 64 (fun _ => 0) = ar 64 (F i) := ((by rw [← e2]; rfl : ar 64 (fun _ => 0) = ar 64 (getE l i))).trans (ar_get h4 i)
    simp [Instr.lookup, run_underlying undImg, MapKept.run_getObj_map h1, run_chk, run_find h2, hl, Result.andThen, tSe.zero w, e3]
  | some q =>
    rw [hl] at e
    have e2 : q.2 = getE l i := e
    have e3 : ar 64 q.2 = ar 64 (F i) := by rw [e2]; exact ar_get h4 i
    simp [Instr.lookup, run_underlying undImg, MapKept.run_getObj_map h1, run_chk, run_find h2, hl, Result.andThen, e3]
theorem turn_set (w : World) (r : Nat) (o : Obj) : Turn (fun b => b = r) w { w with heap := w.heap.setIfInBounds r o } := ⟨rfl, rfl, rfl, by simp, fun k _ hk => by
  show (w.heap.setIfInBounds r o)[k]? = _
  rw [Array.getElem?_setIfInBounds_ne fun e => hk e.symm]⟩
theorem run_put (h : MapB w r F) (i : Int) (s : Nat → Nat) : ∃ w', (Instr.mapUpdate 54 (.map (some r)) (.int .i64 i) (.agg (ar 64 s))).run Try.prog w = .ok () w' ∧ MapB w' r (upd F ⟨i, s⟩) ∧ Turn (fun b => b = r) w w' := by
  have hlt := h.lt
  obtain ⟨es, c, l, h1, h2, h3, h4⟩ := h
  have hval : ∀ j k, k < 64 → getE (putE l i s) j k = upd F ⟨i, s⟩ j k := fun j k hk => by
    rw [get_put]
    unfold upd
    by_cases e : j = i
    · rw [if_pos e, if_pos e]
    · rw [if_neg e, if_neg e]; exact h4 j k hk
  cases hl : look l i 0 with
  | none =>
    obtain ⟨e1, e2⟩ := look_none hl
    refine ⟨_, by simp [Instr.mapUpdate, run_underlying undImg, MapKept.run_getObj_map h1, run_chk, run_find h2, hl, Result.andThen, MapKept.run_setObj_map _ h1]; rfl, ?_, turn_set _ _ _⟩
    refine ⟨_, _, putE l i s, by simp [hlt]; exact ⟨rfl, rfl⟩, ?_, nodup_put h3, hval⟩
    rw [e1, Array.toList_push, List.map_append, List.map_append, h2]
    rfl
  | some q =>
    obtain ⟨d, e1, e2, e3, e4⟩ := look_some hl
    rw [Nat.zero_add] at e1
    subst e1
    have hd : q.1 < l.length := (List.getElem?_eq_some_iff.1 e2).1
    have hlen : es.size = l.length := by have := congrArg List.length h2; simpa using this
    have hes : q.1 < es.size := by omega
    have hkey : es[q.1].key = .int .i64 i := by
      have := congrArg (fun x => x[q.1]?) h2
      simp only [List.getElem?_map, e2, Array.getElem?_toList, Array.getElem?_eq_getElem hes, Option.map_some, Option.some.injEq] at this
      exact congrArg Prod.fst this
    have hst : ∀ w, (Instr.keyThatStays (.int .i64 i) (.int .i64 i)).run Try.prog w = .ok (.int .i64 i) w := fun w => by
      simp [Instr.keyThatStays, Instr.sameBits]
    refine ⟨_, by simp [Instr.mapUpdate, run_underlying undImg, MapKept.run_getObj_map h1, run_chk, run_find h2, hl, Result.andThen, MapKept.run_setObj_map _ h1, Array.getElem?_eq_getElem hes, hkey, hst]; rfl, ?_, turn_set _ _ _⟩
    refine ⟨_, _, putE l i s, by simp [hlt]; exact ⟨rfl, rfl⟩, ?_, nodup_put h3, hval⟩
    rw [← e3, Array.toList_modify, List.map_set, ← h2]
    exact map_mod (f := kvE) (g := fun e => { key := Value.int IntKind.i64 i, val := Value.agg (ar 64 s), born := e.born }) (v := kvP (i, s)) (fun _ => rfl) _ _
theorem run_del {ty : TypeId} (h : MapB w r F) (i : Int) : ∃ w', (Builtin.delete_ #[54, 3] ty #[.map (some r), .int .i64 i]).run Try.prog w = .ok (.tuple #[]) w' ∧ MapB w' r (upd F ⟨i, zero⟩) ∧ Turn (fun b => b = r) w w' := by
  have hlt := h.lt
  obtain ⟨es, c, l, h1, h2, h3, h4⟩ := h
  have hval : ∀ j k, k < 64 → getE (delE l i) j k = upd F ⟨i, zero⟩ j k := fun j k hk => by
    rw [get_del i j l h3]
    unfold upd
    by_cases e : j = i
    · rw [if_pos e, if_pos e]
    · rw [if_neg e, if_neg e]; exact h4 j k hk
  cases hl : look l i 0 with
  | none =>
    obtain ⟨e1, e2⟩ := look_none hl
    refine ⟨_, by simp [Builtin.delete_, run_underlying undImg, MapKept.run_getObj_map h1, run_chk, run_find h2, hl, Result.andThen, MapKept.run_setObj_map _ h1]; rfl, ?_, turn_set _ _ _⟩
    exact ⟨_, _, delE l i, by simp [hlt]; exact ⟨rfl, rfl⟩, by rw [e2]; exact h2, nodup_del h3, hval⟩
  | some q =>
    obtain ⟨d, e1, e2, e3, e4⟩ := look_some hl
    rw [Nat.zero_add] at e1
    subst e1
    refine ⟨_, by simp [Builtin.delete_, run_underlying undImg, MapKept.run_getObj_map h1, run_chk, run_find h2, hl, Result.andThen, MapKept.run_setObj_map _ h1]; rfl, ?_, turn_set _ _ _⟩
    refine ⟨_, _, delE l i, by simp [hlt]; exact ⟨rfl, rfl⟩, ?_, nodup_del h3, hval⟩
    rw [← e4, map_era, ← h2, ← map_era]
    congr 1
    rw [Array.toList_eraseIdxIfInBounds]
end
end MbP
end Go.Proofs.Yteglhalninlapaa
set_option maxRecDepth 100000
namespace Go.Proofs.Yteglhalninlapaa
open Go.ChangeShapes Go.WideShapes Go.ChangeAt Go.RowKit
attribute [local go_sem] Gives
namespace MbO
open MbM MbP
section
variable {ops : Array Oper} {Q : Exit → Act → World → Prop} {a : Act} {w : World} {rest : List Oper} {dst : Option Tmp} {ty t2 : TypeId} {pos : String} {after : Array Edge} {m x y : Operand} {r : Nat} {i : Int} {F : Img} {s f g : Nat → Nat} {n : Nat} {T : TypeId}
theorem wlookM (hm : a.eval m = .map (some r)) (hx : a.eval x = .int .i64 i) (h : MapB w r F) (hk : wpList Try.prog ops Q rest (a.put dst (.agg (ar 64 (F i)))) w) :
    wpList Try.prog ops Q (⟨dst, .lookup 54 m x false, ty, pos, after, none⟩ :: rest) a w := by
  have hr := run_look h i
  refine wpList_plain rfl fun K hK => ?_
  unfold Oper.wp execOp
  simp [hm, hx, hr, Result.andThen]
  exact hK _ _ hk
theorem wputM (hm : a.eval m = .map (some r)) (hx : a.eval x = .int .i64 i) (hy : a.eval y = .agg (ar 64 s)) (h : MapB w r F) (hk : ∀ w', MapB w' r (upd F ⟨i, s⟩) → Turn (fun b => b = r) w w' → wpList Try.prog ops Q rest (a.put dst undef) w') :
    wpList Try.prog ops Q (⟨dst, .mapUpdate 54 m x y, ty, pos, after, none⟩ :: rest) a w := by
  obtain ⟨w', hr, h1, h2⟩ := run_put h i s
  refine wpList_plain rfl fun K hK => ?_
  unfold Oper.wp execOp
  simp [hm, hx, hy, hr, Result.andThen]
  exact hK _ _ (hk w' h1 h2)
theorem wdelM (hm : a.eval m = .map (some r)) (hx : a.eval x = .int .i64 i) (h : MapB w r F) (hk : ∀ w', MapB w' r (upd F ⟨i, zero⟩) → Turn (fun b => b = r) w w' → wpList Try.prog ops Q rest (a.put dst (.tuple #[])) w') :
    wpList Try.prog ops Q (⟨dst, .call { callee := .builtin .delete, args := #[m, x], argTypes := #[54, 3] }, ty, pos, after, none⟩ :: rest) a w := by
  obtain ⟨w', hr, h1, h2⟩ := run_del (ty := ty) h i
  refine wpList_plain rfl fun K hK => ?_
  unfold Oper.wp execOp
  simp only [resolve, invoke, builtin, Sem.run_bind, Sem.run_pure, Result.andThen_ok, List.map_toArray, List.map_cons, List.map_nil, hm, hx, hr]
  exact hK _ _ (hk w' h1 h2)
theorem weqU (b : Bool) (hT : Try.prog.underlying T = some (.array n 5)) (hg : Try.prog.eqGuardType Try.prog.depth T = false) (hx : a.eval x = .agg (ar n f)) (hy : a.eval y = .agg (ar n g)) (hb : eqA n f g = b) (h : wpList Try.prog ops Q rest (a.put dst (.bool b)) w) :
    wpList Try.prog ops Q (⟨dst, .binOp .eql T x y t2, ty, pos, after, none⟩ :: rest) a w := by
  have hr := exec_eqU (r := t2) (dst := dst) (ty := ty) (pos := pos) (after := after) (gd := none) (w := w) hT hg hx hy
  rw [hb] at hr
  refine wpList_plain rfl fun K hK => ?_
  unfold Oper.wp
  simp [hr, Result.andThen]
  exact hK _ _ h
end
theorem uSe : Try.prog.underlying 32 = some (.array 64 5) := Try.underlying32
theorem gSe : Try.prog.eqGuardType Try.prog.depth 32 = false := by kernel_rfl
set_option maxRecDepth 100000 in
theorem put_any (r : Nat) (F : Img) (i : Int) (x : Nat → Nat) (w : World) (h : MapB w r F) :
    Calls Try.prog 46 #[.map (some r), .int .i64 i, .agg (ar 64 x)] w fun e w' => e = .returned (.tuple #[]) ∧ MapB w' r (upd F ⟨i, x⟩) ∧ Turn (fun b => b = r) w w' := by
  have H := hid h
  clear h
  go_enter Try.func46, Try.ntmps46
  go_upto_region 1 with fail
  generalize hw1 : World.alloc w _ = w1
  have b1 := hid (show Blk w1 w.heap.size 32 (ar 64 x) by rw [← hw1]; exact Blk.new _ _ _)
  have BEL := hid (show Below w.heap.size w w1 by rw [← hw1]; exact (Below.refl _ _).alloc (Nat.le_refl _) _)
  have H1 := hid (H.out.below BEL.out)
  clear hw1 H
  by_cases hz : ∀ k, k < 64 → x k = 0
  · have he := hid (show eqA 64 x (fun _ => 0) = true from eqA_yes hz)
    have HZ := hid hz
    clear hz
    go_wp2_with (first | ((with_reducible apply ldA tSe); rfl; exact b1.out) | ((with_reducible apply bldZr (n := 64)); kernel_rfl) | ((with_reducible apply weqU true uSe gSe); rfl; rfl; exact he.out) | ((with_reducible apply wdelM); rfl; rfl; exact H1.out; intro w2 h2 ht2))
    simp only [Act.put]
    refine bodyPost_ret (results_none rfl _ _ _) rfl ?_
    refine ⟨rfl, h2.congr fun j k hk => ?_, (Turn.of_new BEL.out).trans ht2 fun _ e => .inl e⟩
    unfold upd
    split
    · exact (HZ.out k hk).symm
    · rfl
  · have he := hid (show eqA 64 x (fun _ => 0) = false from eqA_no hz)
    clear hz
    go_wp2_with (first | ((with_reducible apply ldA tSe); rfl; exact b1.out) | ((with_reducible apply bldZr (n := 64)); kernel_rfl) | ((with_reducible apply weqU false uSe gSe); rfl; rfl; exact he.out) | ((with_reducible apply wputM); rfl; rfl; rfl; exact H1.out; intro w2 h2 ht2))
    go_end0
    exact ⟨rfl, h2, (Turn.of_new BEL.out).trans ht2 fun _ e => .inl e⟩
theorem run_eqi_map (w : World) (d : Nat) (p : Option Nat) : (Op.equalIn (d + 1) 54 (.map p) (.map none)).run Try.prog w = .ok p.isNone w := by
  cases p <;> simp [Op.equalIn, run_underlying undImg]
theorem run_eq_map (w : World) (p : Option Nat) : (binOp .eql 54 (.map p) (.map none)).run Try.prog w = .ok (.bool p.isNone) w := by
  simp only [binOp]
  simp [show Op.equal 54 (.map p) (.map none) = Op.equalIn (9999 + 1) 54 (.map p) (.map none) from rfl, run_eqi_map w 9999 p]
theorem run_ta_map (w : World) (v : Value) (xT : TypeId) : (Instr.typeAssert (.iface 54 v) xT 54 false).run Try.prog w = .ok v w := by
  simp [Instr.typeAssert, run_underlying undImg, go_sem, Result.andThen]
theorem run_clone {w : World} {r : Nat} {es : Array MapEntry} {clock : Nat} (t : TypeId) (hb : w.heap[r]? = some (.map es clock)) :
    (Extern.MapsClone.clone #[.iface t (.map (some r))]).run Try.prog w = .ok (.iface t (.map (some w.heap.size))) (w.alloc (.map es clock)) := by
  have e : Extern.MapsClone.clone #[.iface t (.map (some r))] = (getObj r >>= fun o => match o with
      | .map entries clock => (newObj (.map entries clock) >>= fun n => pure (.iface t (.map (some n))))
      | _ => stuck "maps.clone: a map expected") := rfl
  rw [e]
  simp [MapKept.run_getObj_map hb, Result.andThen, go_sem]
set_option maxHeartbeats 800000 in
theorem clone_any (r : Nat) (F : Img) (w : World) (h : MapB w r F) :
    Calls Try.prog 43 #[.map (some r)] w fun e w' => e = .returned (.map (some w.heap.size)) ∧ MapB w' w.heap.size F ∧ Below w.heap.size w w' ∧ w'.heap.size = w.heap.size + 1 := by
  obtain ⟨es, clock, hb, htw⟩ := h.twin
  have HT := hid htw
  clear h htw
  have hq := fun w => run_eq_map w (some r)
  go_enter Try.func43, Try.ntmps43
  go_wp2
  rw [run_callFunc_extern Try.func57 (by kernel_rfl) (by kernel_rfl) (by kernel_rfl) (e := Extern.MapsClone.clone) (by kernel_rfl), run_clone 54 hb]
  simp only [Result.andThen]
  rw [Oper.upon_value]
  go_wp2
  rw [run_ta_map]
  simp only [Result.andThen]
  rw [Oper.upon_value]
  go_wp2
  go_ret
  exact ⟨rfl, HT.out _ _ (heap_alloc_new w _), (Below.refl _ _).alloc (Nat.le_refl _) _, by simp⟩
/-- Is it made: of a block with sectors. -/
theorem made_any (g : Nat) (n : Int) (hn : 0 < n) (w : World) (h : w.cell? ⟨g, 0, none⟩ = some (.int .i64 n)) :
    Calls Try.prog 42 #[.pointer (some ⟨g, 0, none⟩)] w fun e w' => e = .returned (.bool true) ∧ w = w' := by
  have t1 : decide ((0 : Int) < n) = true := by simp; omega
  clear hn
  go_enter Try.func42, Try.ntmps42
  go_wp2_with fail
  go_ret
  exact ⟨rfl, rfl⟩
theorem find2_any (g : Nat) (n : Int) (hn : 0 < n) (i : Int) (q : Bool) (hq : decide (0 ≤ i ∧ i < n) = q) (w : World) (h : w.cell? ⟨g, 0, none⟩ = some (.int .i64 n)) :
    Calls Try.prog 49 #[.pointer (some ⟨g, 0, none⟩), .int .i64 i] w fun e w' => e = .returned (.int .i64 (if q then 0 else 2)) ∧ w = w' := by
  by_cases h0 : 0 ≤ i
  · have t1 : decide (i < 0) = false := by simp; omega
    by_cases h1 : i < n
    · have t2 : decide (n ≤ i) = false := by simp; omega
      have t3 : q = true := by rw [← hq]; simp; omega
      subst t3
      clear hq h0 h1
      go_enter Try.func49, Try.ntmps49
      go_wp2_with fail
      refine (made_any g n hn w h).mono ?_
      rintro e w' ⟨rfl, rfl⟩
      go_wp2_with fail
      go_ret
      exact ⟨rfl, rfl⟩
    · have t2 : decide (n ≤ i) = true := by simp; omega
      have t3 : q = false := by rw [← hq]; simp; omega
      subst t3
      clear hq h0 h1
      go_enter Try.func49, Try.ntmps49
      go_wp2_with fail
      refine (made_any g n hn w h).mono ?_
      rintro e w' ⟨rfl, rfl⟩
      go_wp2_with fail
      go_ret
      exact ⟨rfl, rfl⟩
  · have t1 : decide (i < 0) = true := by simp; omega
    have t3 : q = false := by rw [← hq]; simp; omega
    subst t3
    clear hq h0
    go_enter Try.func49, Try.ntmps49
    go_wp2_with fail
    refine (made_any g n hn w h).mono ?_
    rintro e w' ⟨rfl, rfl⟩
    go_wp2_with fail
    go_ret
    exact ⟨rfl, rfl⟩
theorem reach_any (g : Nat) (n : Int) (hn : 0 < n) (i : Int) (q F : Bool) (hq : decide (0 ≤ i ∧ i < n) = q) (w : World) (h : w.cell? ⟨g, 0, none⟩ = some (.int .i64 n)) (h5 : w.cell? ⟨g, 5, none⟩ = some (.bool F)) :
    Calls Try.prog 45 #[.pointer (some ⟨g, 0, none⟩), .int .i64 i] w fun e w' => e = .returned (.int .i64 (if q then (if F then 10 else 0) else 2)) ∧ w = w' := by
  have HQ := hid hq
  clear hq
  go_enter Try.func45, Try.ntmps45
  go_wp2_with fail
  refine (find2_any g n hn i q HQ.out w h).mono ?_
  rintro e w' ⟨rfl, rfl⟩
  cases q with
  | false =>
    go_wp2_with fail
    go_ret
    exact ⟨rfl, rfl⟩
  | true =>
    cases F with
    | false =>
      go_wp2_with fail
      go_ret
      exact ⟨rfl, rfl⟩
    | true =>
      go_wp2_with fail
      go_ret
      exact ⟨rfl, rfl⟩
theorem yes_any (k : Int) (w : World) : Calls Try.prog 52 #[.int .i64 k] w fun e w' => e = .returned (.bool true) ∧ w = w' := by
  go_enter Try.func52, Try.ntmps52
  go_wp2_with fail
  go_ret
  exact ⟨rfl, rfl⟩
/-- The closure of Crash: is the k-th pick there, and not 0. -/
theorem picked_any (h : Nat) (P : Option Addr) (picks : List Nat) (pn pc : Nat) (k : Nat) (w : World) (hb : w.cell? ⟨h, 0, none⟩ = some (.slice P pn pc)) (ha : Arg w P picks pn pc) :
    Calls Try.prog 48 #[.int .i64 k, .pointer (some ⟨h, 0, none⟩)] w fun e w' => e = .returned (.bool (decide (picks.getD k 0 ≠ 0))) ∧ w = w' := by
  have hl := ha.len
  by_cases hk : k < pn
  · obtain ⟨b, o, rfl, hbl, hr⟩ := ha.byt (by omega)
    obtain ⟨x, hx⟩ : ∃ x, x = picks.getD k 0 := ⟨_, rfl⟩
    have q1 : w.cell? ⟨b, o + k, none⟩ = some (.int .u8 (x : Nat)) := by rw [hx]; exact hr k (by omega)
    rw [← hx]
    have t1 : (k : Int) < (pn : Int) := by omega
    clear hx hr ha hl
    by_cases e : x = 0
    · subst e
      go_enter Try.func48, Try.ntmps48
      go_wp2_with fail
      go_ret
      exact ⟨rfl, rfl⟩
    · have tx : ((x : Int) != 0) = true := by simp; omega
      rw [show decide (x ≠ 0) = true by simp [e]]
      go_enter Try.func48, Try.ntmps48
      go_wp2_with fail
      go_ret
      exact ⟨rfl, rfl⟩
  · have t1 : decide ((k : Int) < (pn : Int)) = false := by simp; omega
    have HF := hid (show decide (picks.getD k 0 ≠ 0) = false by rw [List.getD_eq_getElem?_getD, List.getElem?_eq_none (by omega)]; rfl)
    clear ha hl
    go_enter Try.func48, Try.ntmps48
    go_wp2_with fail
    go_ret
    exact ⟨by rw [HF.out]; rfl, rfl⟩
theorem tWr (p : Pt) : RowT 77 (atL p).toArray.size := by
  rw [List.size_toArray, atL_len]
  exact ⟨by kernel_rfl, _, Try.underlying77, rfl⟩
theorem at_one (p : Pt) : (atL p).toArray.all (·.oneCell') = true := by
  rw [Array.all_eq_true_iff_forall_mem]
  intro u hu
  exact eltAt.one p u (by simpa using hu)
/-- The closure of Set: was it written there. -/
theorem there_any (h : Nat) (i : Int) (p : Pt) (w : World) (hb : w.cell? ⟨h, 0, none⟩ = some (.int .i64 i)) :
    Calls Try.prog 51 #[.agg (atL p).toArray, .pointer (some ⟨h, 0, none⟩)] w fun e w' => e = .returned (.bool (decide (p.i = i))) ∧ Below w.heap.size w w' := by
  have hl : h < w.heap.size := World.block_lt_of_cell? w ⟨h, 0, none⟩ hb
  have HB := hid hb
  clear hb
  go_enter Try.func51, Try.ntmps51
  go_upto_region 1 with fail
  generalize hw1 : World.alloc w _ = w1
  have b1 := hid (show Blk w1 w.heap.size 77 (atL p).toArray by rw [← hw1]; exact Blk.new _ _ _)
  have BEL := hid (show Below w.heap.size w w1 by rw [← hw1]; exact (Below.refl _ _).alloc (Nat.le_refl _) _)
  have q0 : w1.cell? ⟨h, 0, none⟩ = some (.int .i64 i) := (BEL.out.cell (p := ⟨h, 0, none⟩) hl).trans HB.out
  have q1 : w1.cell? ⟨w.heap.size, 0, none⟩ = some (.int .i64 p.i) := at_i b1.out.whole
  clear hw1 HB b1
  go_wp2_with fail
  go_ret
  exact ⟨rfl, BEL.out⟩
end MbO
end Go.Proofs.Yteglhalninlapaa
set_option maxRecDepth 100000
namespace Go.Proofs.Yteglhalninlapaa
open Go.ChangeShapes Go.WideShapes Go.ChangeAt Go.RowKit
attribute [local go_sem] Gives
namespace MbP
theorem MapB.obj {w : World} {r : Nat} {F : MbM.Img} (h : MapB w r F) : ∃ es c, w.heap[r]? = some (.map es c) := by
  obtain ⟨es, c, l, h1, _⟩ := h
  exact ⟨es, c, h1⟩
theorem map_ne {w : World} {r b : Nat} {F : MbM.Img} {cs : Array Value} {t : TypeId} {q : Nat × Nat} (h : MapB w r F) (hb : w.heap[b]? = some (.cells cs t q)) : b ≠ r := fun e => by
  obtain ⟨es, c, h1⟩ := h.obj
  rw [← e, hb] at h1
  cases h1
end MbP
theorem OwnX.obj {w : World} {α : Type} {E : TypeId} {k : Nat} {en : α → List Value} {B b : Nat} {v : Value} {l : List α} (h : OwnX E k en w B v l) (hb : v.ownBlock = some b) : ∃ cur, w.heap[b]? = some (.cells cur E (0, 0)) := by
  rcases h.2 with ⟨rfl, _⟩ | ⟨g, cap, cur, rfl, _, hg, _⟩
  · cases hb
  · cases hb
    exact ⟨cur, hg⟩
namespace MbO
open MbM MbP
theorem eltWr : EltX 77 65 atL where
  pos := by omega
  len := atL_len
  one := eltAt.one
  info := elt_info (by kernel_rfl) (by kernel_rfl) (by kernel_rfl)
theorem undWr : Try.prog.underlying 55 = some (.slice 77) := Try.underlying55
/-- Maps as elements. -/
def imE (r : Option Nat) : List Value := [.map r]
theorem eltIm : EltX 54 1 imE where
  pos := by omega
  len _ := rfl
  one x u hu := by
    unfold imE at hu
    rw [List.mem_singleton] at hu
    subst hu; rfl
  info := elt_info (by kernel_rfl) (by kernel_rfl) (by kernel_rfl)
theorem undIm : Try.prog.underlying 56 = some (.slice 54) := Try.underlying56
abbrev OwnL (w : World) (B : Nat) (v : Value) (l : List Pt) : Prop := OwnX 77 65 atL w B v l
abbrev OwnM (w : World) (B : Nat) (v : Value) (l : List (Option Nat)) : Prop := OwnX 54 1 imE w B v l
def mbC7 (n : Int) (rs rd : Nat) (vl vm : Value) (f h : Bool) : Array Value := #[.int .i64 n, .map (some rs), .map (some rd), vl, vm, .bool f, .bool h]
/-- Block g holds a member. -/
structure Mm (w : World) (g rs rd : Nat) (vl vm : Value) (ms : List Nat) (n : Int) (S D : Img) (log : List Pt) (marks : List Img) (f h : Bool) : Prop where
  blk : Blk w g 58 (mbC7 n rs rd vl vm f h)
  pos : 0 < n
  seen : MapB w rs S
  dur : MapB w rd D
  lg : OwnL w 0 vl log
  mr : OwnM w 0 vm (ms.map some)
  len : ms.length = marks.length
  im : ∀ (i m : Nat) (F : Img), ms[i]? = some m → marks[i]? = some F → MapB w m F
  ne : rs ≠ rd
  out : ∀ m, m ∈ ms → m ≠ rs ∧ m ≠ rd
/-- What it turns. -/
def mSet (g rs rd : Nat) (vl vm : Value) (b : Nat) : Prop := b = g ∨ b = rs ∨ b = rd ∨ vl.ownBlock = some b ∨ vm.ownBlock = some b
section
variable {w w' : World} {g rs rd : Nat} {vl vm : Value} {ms : List Nat} {n : Int} {S D : Img} {log : List Pt} {marks : List Img} {f h : Bool} {T : Nat → Prop}
theorem Mm.lt (H : Mm w g rs rd vl vm ms n S D log marks f h) {b : Nat} (hb : mSet g rs rd vl vm b ∨ b ∈ ms) : b < w.heap.size := by
  rcases hb with (rfl | rfl | rfl | e | e) | e
  · exact H.blk.lt
  · exact H.seen.lt
  · exact H.dur.lt
  · exact (H.lg.own b e).2
  · exact (H.mr.own b e).2
  · obtain ⟨i, hi⟩ := List.mem_iff_getElem?.1 e
    have hil : i < marks.length := by rw [← H.len]; exact (List.getElem?_eq_some_iff.1 hi).1
    exact (H.im i b _ hi (List.getElem?_eq_getElem hil)).lt
theorem Mm.turn (H : Mm w g rs rd vl vm ms n S D log marks f h) (ht : Turn T w w') (hT : ∀ b, mSet g rs rd vl vm b ∨ b ∈ ms → ¬ T b) : Mm w' g rs rd vl vm ms n S D log marks f h where
  blk := H.blk.turn ht (hT _ (.inl (.inl rfl)))
  pos := H.pos
  seen := H.seen.turn ht (hT _ (.inl (.inr (.inl rfl))))
  dur := H.dur.turn ht (hT _ (.inl (.inr (.inr (.inl rfl)))))
  lg := H.lg.turn ht fun b e => hT b (.inl (.inr (.inr (.inr (.inl e)))))
  mr := H.mr.turn ht fun b e => hT b (.inl (.inr (.inr (.inr (.inr e)))))
  len := H.len
  im i m F h1 h2 := (H.im i m F h1 h2).turn ht (hT m (.inr (List.mem_of_getElem? h1)))
  ne := H.ne
  out := H.out
theorem Mm.below (H : Mm w g rs rd vl vm ms n S D log marks f h) (hb : Below w.heap.size w w') : Mm w' g rs rd vl vm ms n S D log marks f h :=
  H.turn (Turn.of_below hb) fun b e => by have := H.lt e; omega
theorem Mm.g_rs (H : Mm w g rs rd vl vm ms n S D log marks f h) : g ≠ rs := map_ne H.seen H.blk
theorem Mm.g_rd (H : Mm w g rs rd vl vm ms n S D log marks f h) : g ≠ rd := map_ne H.dur H.blk
theorem Mm.l_rs (H : Mm w g rs rd vl vm ms n S D log marks f h) : vl.ownBlock ≠ some rs := fun e => by obtain ⟨c, hc⟩ := H.lg.obj e; exact map_ne H.seen hc rfl
theorem Mm.l_rd (H : Mm w g rs rd vl vm ms n S D log marks f h) : vl.ownBlock ≠ some rd := fun e => by obtain ⟨c, hc⟩ := H.lg.obj e; exact map_ne H.dur hc rfl
theorem Mm.m_rs (H : Mm w g rs rd vl vm ms n S D log marks f h) : vm.ownBlock ≠ some rs := fun e => by obtain ⟨c, hc⟩ := H.mr.obj e; exact map_ne H.seen hc rfl
theorem Mm.m_rd (H : Mm w g rs rd vl vm ms n S D log marks f h) : vm.ownBlock ≠ some rd := fun e => by obtain ⟨c, hc⟩ := H.mr.obj e; exact map_ne H.dur hc rfl
theorem Mm.l_g (H : Mm w g rs rd vl vm ms n S D log marks f h) : vl.ownBlock ≠ some g := fun e => by
  obtain ⟨c, hc⟩ := H.lg.obj e
  have h2 : w.heap[g]? = some (.cells _ 58 (0, 0)) := H.blk
  rw [hc] at h2
  simp at h2
theorem Mm.m_g (H : Mm w g rs rd vl vm ms n S D log marks f h) : vm.ownBlock ≠ some g := fun e => by
  obtain ⟨c, hc⟩ := H.mr.obj e
  have h2 : w.heap[g]? = some (.cells _ 58 (0, 0)) := H.blk
  rw [hc] at h2
  simp at h2
theorem Mm.l_m (H : Mm w g rs rd vl vm ms n S D log marks f h) {b : Nat} (e : vl.ownBlock = some b) : vm.ownBlock ≠ some b := fun e2 => by
  obtain ⟨c, hc⟩ := H.lg.obj e
  obtain ⟨c2, hc2⟩ := H.mr.obj e2
  rw [hc] at hc2
  simp at hc2
theorem Mm.im_lt (H : Mm w g rs rd vl vm ms n S D log marks f h) {m : Nat} (hm : m ∈ ms) : ∃ F, MapB w m F := by
  obtain ⟨i, hi⟩ := List.mem_iff_getElem?.1 hm
  have hil : i < marks.length := by rw [← H.len]; exact (List.getElem?_eq_some_iff.1 hi).1
  exact ⟨_, H.im i m _ hi (List.getElem?_eq_getElem hil)⟩
theorem Mm.own (H : Mm w g rs rd vl vm ms n S D log marks f h) {b : Nat} (hb : mSet g rs rd vl vm b) : ¬ b ∈ ms := fun hm => by
  obtain ⟨F, hF⟩ := H.im_lt hm
  rcases hb with rfl | rfl | rfl | e | e
  · exact map_ne hF H.blk rfl
  · exact (H.out _ hm).1 rfl
  · exact (H.out _ hm).2 rfl
  · obtain ⟨c, hc⟩ := H.lg.obj e; exact map_ne hF hc rfl
  · obtain ⟨c, hc⟩ := H.mr.obj e; exact map_ne hF hc rfl
/-- Cells of the member's own block alone are turned. -/
theorem Mm.flags (H : Mm w g rs rd vl vm ms n S D log marks f h) (f' h' : Bool) (ht : Turn (fun b => b = g) w w') (hb : Blk w' g 58 (mbC7 n rs rd vl vm f' h')) : Mm w' g rs rd vl vm ms n S D log marks f' h' where
  blk := hb
  pos := H.pos
  seen := H.seen.turn ht fun e => H.g_rs e.symm
  dur := H.dur.turn ht fun e => H.g_rd e.symm
  lg := H.lg.turn ht fun b e e2 => H.l_g (by rw [e, e2])
  mr := H.mr.turn ht fun b e e2 => H.m_g (by rw [e, e2])
  len := H.len
  im i m F h1 h2 := (H.im i m F h1 h2).turn ht fun e => map_ne (H.im i m F h1 h2) H.blk e.symm
  ne := H.ne
  out := H.out
end
def Rep (w : World) (g : Nat) (M I : Nat → Prop) (k : Nat) (st : St) : Prop := ∃ rs rd vl vm ms, Mm w g rs rd vl vm ms st.n (MbM.seen st) st.dur st.log st.marks st.fails st.hurt ∧
  (st.log.length ≤ k ∧ st.marks.length ≤ 64 ∧ st.n ≤ 65536) ∧ M = mSet g rs rd vl vm ∧ I = fun b => b ∈ ms
/-- What a call leaves of a member. -/
theorem Rep.out {w w' : World} {g rs rd : Nat} {vl vm : Value} {ms : List Nat} {rs' rd' : Nat} {vl' vm' : Value} {ms' : List Nat} {k : Nat} {st' : St}
    (H : Mm w' g rs' rd' vl' vm' ms' st'.n (MbM.seen st') st'.dur st'.log st'.marks st'.fails st'.hurt) (hk : st'.log.length ≤ k ∧ st'.marks.length ≤ 64 ∧ st'.n ≤ 65536)
    (hM : ∀ b, mSet g rs' rd' vl' vm' b → mSet g rs rd vl vm b ∨ w.heap.size ≤ b) (hI : ∀ b, b ∈ ms' → b ∈ ms ∨ w.heap.size ≤ b) (ht : Turn (mSet g rs rd vl vm) w w') :
    outP Rep w g (mSet g rs rd vl vm) (fun b => b ∈ ms) k st' w' :=
  ⟨_, _, ⟨rs', rd', vl', vm', ms', H, hk, rfl, rfl⟩, hM, fun b e => .inr (hI b e), ht⟩
theorem Rep.same {w w' : World} {g : Nat} {M I : Nat → Prop} {k : Nat} {st : St} (h : Rep w g M I k st) (hb : Below w.heap.size w w') : outP Rep w g M I k st w' := by
  obtain ⟨rs, rd, vl, vm, ms, H, hk, rfl, rfl⟩ := h
  exact Rep.out (H.below hb) hk (fun b e => .inl e) (fun b e => .inl e) (Turn.of_new hb)
section
variable {ops : Array Oper} {Q : Exit → Act → World → Prop} {a : Act} {w : World} {rest : List Oper} {dst : Option Tmp} {ty : TypeId} {pos : String} {after : Array Edge}
theorem wmkM {T : TypeId} (h : wpList Try.prog ops Q rest (a.put dst (.map (some w.heap.size))) (w.alloc (.map #[] 0))) :
    wpList Try.prog ops Q (⟨dst, .makeMap T none, ty, pos, after, none⟩ :: rest) a w := by
  have hr : (Instr.makeMap T none).run Try.prog w = .ok (.map (some w.heap.size)) (w.alloc (.map #[] 0)) := by
    simp [Instr.makeMap, go_sem, Result.andThen]
  refine wpList_plain rfl fun K hK => ?_
  unfold Oper.wp execOp
  simp only [Option.map_none, Sem.run_bind, hr, Result.andThen_ok, Sem.run_pure]
  exact hK _ _ h
end
theorem built_new (n : Int) (r1 r2 : Nat) : Try.prog.built 58 [(0, .int .i64 n), (1, .map (some r1)), (2, .map (some r2))] = some (mbC7 n r1 r2 (.slice none 0 0) (.slice none 0 0) false false) := by kernel_rfl
section
variable {ops : Array Oper} {Q : Exit → Act → World → Prop} {a : Act} {w : World} {rest : List Oper} {dst : Option Tmp} {ty : TypeId} {pos : String} {after : Array Edge} {x y z : Operand} {n : Int} {r1 r2 : Nat}
theorem bldMb (hx : a.eval x = .int .i64 n) (hy : a.eval y = .map (some r1)) (hz : a.eval z = .map (some r2)) (hk : wpList Try.prog ops Q rest (a.put dst (.agg (mbC7 n r1 r2 (.slice none 0 0) (.slice none 0 0) false false))) w) :
    wpList Try.prog ops Q (⟨dst, .build 58 #[(0, x), (1, y), (2, z)], ty, pos, after, none⟩ :: rest) a w := by
  have hr : (Instr.build 58 #[(0, .int .i64 n), (1, .map (some r1)), (2, .map (some r2))]).run Try.prog w = .ok (.agg (mbC7 n r1 r2 (.slice none 0 0) (.slice none 0 0) false false)) w := run_build w _ _ _ (built_new n r1 r2)
  refine wpList_plain rfl fun K hK => ?_
  unfold Oper.wp execOp
  simp [hx, hy, hz, hr, Result.andThen]
  exact hK _ _ hk
end
theorem new_any (n : Int) (h1 : 1 ≤ n) (h2 : n ≤ 65536) (w : World) : Calls Try.prog 10 #[.int .i64 n] w fun e w' => ∃ g M I, e = .returned (.tuple #[at' g, .int .i64 0]) ∧ Rep w' g M I 0 (made n) ∧ (∀ b, M b ∨ I b → w.heap.size ≤ b) ∧ Below w.heap.size w w' := by
  have t1 : decide (n < 1) = false := by simp; omega
  have t2 : decide ((65536 : Int) < n) = false := by simp; omega
  go_enter Try.func10, Try.ntmps10
  go_wp2_with (first | (with_reducible apply wmkM) | ((with_reducible apply bldMb); rfl; rfl; rfl))
  go_ret2
  refine ⟨w.heap.size + 2, mSet (w.heap.size + 2) w.heap.size (w.heap.size + 1) (.slice none 0 0) (.slice none 0 0), fun b => b ∈ [], by simp [at'], ?_, ?_, ?_⟩
  · refine ⟨w.heap.size, w.heap.size + 1, _, _, [], ?_, ⟨Nat.zero_le _, Nat.zero_le _, h2⟩, rfl, rfl⟩
    have m0 := MapB.new w
    have m1 : MapB ((w.alloc (.map #[] 0)).alloc (.map #[] 0)) (w.heap.size + 1) fun _ => zero := by
      have := MapB.new (w.alloc (.map #[] 0))
      rwa [show (w.alloc (.map #[] 0)).heap.size = w.heap.size + 1 by simp] at this
    have hb : ∀ (w : World) (o : Obj), Below w.heap.size w (w.alloc o) := fun w o => (Below.refl _ _).alloc (Nat.le_refl _) _
    exact ⟨Blk.top rfl (by simp), by show 0 < n; omega, (m0.below (hb _ _)).below (hb _ _), m1.below (hb _ _), OwnX.nil _ _ _ _ _, OwnX.nil _ _ _ _ _, rfl, fun i m F h => by simp at h, by omega, fun m h => by simp at h⟩
  · intro b hb
    rcases hb with (rfl | rfl | rfl | e | e) | e
    · omega
    · omega
    · omega
    · cases e
    · cases e
    · cases e
  · exact (((Below.refl _ _).alloc (Nat.le_refl _) _).alloc (by simp) _).alloc (by simp; omega) _
theorem bad_any (n : Int) (hn : ¬ (1 ≤ n ∧ n ≤ 65536)) (w : World) : Calls Try.prog 10 #[.int .i64 n] w fun e w' => e = .returned (.tuple #[.pointer none, .int .i64 2]) ∧ Below w.heap.size w w' := by
  by_cases h1 : n < 1
  · have t1 : decide (n < 1) = true := by simp; omega
    clear hn
    go_enter Try.func10, Try.ntmps10
    go_wp2_with fail
    go_ret2
    exact ⟨rfl, Below.refl _ _⟩
  · have t1 : decide (n < 1) = false := by simp; omega
    have t2 : decide ((65536 : Int) < n) = true := by simp; omega
    clear hn
    go_enter Try.func10, Try.ntmps10
    go_wp2_with fail
    go_ret2
    exact ⟨rfl, Below.refl _ _⟩
section
variable {w : World} {g rs rd : Nat} {vl vm : Value} {ms : List Nat} {n : Int} {S D : Img} {log : List Pt} {marks : List Img} {f h : Bool}
set_option maxRecDepth 100000 in
theorem read2_any (H : Mm w g rs rd vl vm ms n S D log marks f h) (i : Int) (q : Bool) (hq : decide (0 ≤ i ∧ i < n) = q) :
    Calls Try.prog 26 #[at' g, .int .i64 i] w fun e w' => e = .returned (.tuple #[.agg (ar 64 (if q then (if f then zero else S i) else zero)), .int .i64 (if q then (if f then 10 else 0) else 2)]) ∧ Below w.heap.size w w' := by
  have HH := hid H
  have HQ := hid hq
  unfold at'
  clear H hq
  go_enter Try.func26, Try.ntmps26
  go_upto_region 1 with (with_reducible apply alA tSe)
  generalize hw1 : World.alloc w _ = w1
  have b1 := hid (show Blk w1 w.heap.size 32 (ar 64 fun _ => 0) by rw [← hw1]; exact Blk.new _ _ _)
  have BEL := hid (show Below w.heap.size w w1 by rw [← hw1]; exact (Below.refl _ _).alloc (Nat.le_refl _) _)
  have H1 := hid (HH.out.below BEL.out)
  clear hw1 HH
  have p0 : w1.cell? ⟨g, 0, none⟩ = some (.int .i64 n) := H1.out.blk.cell 0
  have p5 : w1.cell? ⟨g, 5, none⟩ = some (.bool f) := H1.out.blk.cell 5
  have hn := hid H1.out.pos
  go_wp2_with fail
  refine (reach_any g n hn.out i q f HQ.out w1 p0 p5).mono ?_
  rintro e w' ⟨rfl, rfl⟩
  cases q with
  | false =>
    have bz := b1.out.setRow_same (ar 64 fun _ => 0)
    have bb := hid (below_setRow BEL.out (Nat.le_refl w.heap.size) (ar 64 fun _ => 0))
    go_wp2_with (first | ((with_reducible apply bldZr (n := 64)); kernel_rfl) | ((with_reducible apply stA tSe); rfl; rfl; exact b1.out))
    apply retA tSe Try.results26
    · rfl
    · rfl
    · rfl
    · exact bz
    · exact ⟨rfl, bb.out⟩
  | true =>
    cases f with
    | true =>
      have bz := b1.out.setRow_same (ar 64 fun _ => 0)
      have bb := hid (below_setRow BEL.out (Nat.le_refl w.heap.size) (ar 64 fun _ => 0))
      go_wp2_with (first | ((with_reducible apply bldZr (n := 64)); kernel_rfl) | ((with_reducible apply stA tSe); rfl; rfl; exact b1.out))
      apply retA tSe Try.results26
      · rfl
      · rfl
      · rfl
      · exact bz
      · exact ⟨rfl, bb.out⟩
    | false =>
      have p1 : w1.cell? ⟨g, 1, none⟩ = some (.map (some rs)) := H1.out.blk.cell 1
      have bz := b1.out.setRow_same (ar 64 (S i))
      have bb := hid (below_setRow BEL.out (Nat.le_refl w.heap.size) (ar 64 (S i)))
      go_wp2_with (first | ((with_reducible apply wlookM); rfl; rfl; exact H1.out.seen) | ((with_reducible apply stA tSe); rfl; rfl; exact b1.out))
      apply retA tSe Try.results26
      · rfl
      · rfl
      · rfl
      · exact bz
      · exact ⟨rfl, bb.out⟩
set_option maxRecDepth 100000 in
theorem look2_any (H : Mm w g rs rd vl vm ms n S D log marks f h) (i : Int) (q : Bool) (hq : decide (0 ≤ i ∧ i < n) = q) :
    Calls Try.prog 29 #[at' g, .int .i64 i] w fun e w' => e = .returned (.tuple #[.agg (ar 64 (if q then D i else zero)), .int .i64 (if q then 0 else 2)]) ∧ Below w.heap.size w w' := by
  have HH := hid H
  have HQ := hid hq
  unfold at'
  clear H hq
  go_enter Try.func29, Try.ntmps29
  go_upto_region 1 with (with_reducible apply alA tSe)
  generalize hw1 : World.alloc w _ = w1
  have b1 := hid (show Blk w1 w.heap.size 32 (ar 64 fun _ => 0) by rw [← hw1]; exact Blk.new _ _ _)
  have BEL := hid (show Below w.heap.size w w1 by rw [← hw1]; exact (Below.refl _ _).alloc (Nat.le_refl _) _)
  have H1 := hid (HH.out.below BEL.out)
  clear hw1 HH
  have p0 : w1.cell? ⟨g, 0, none⟩ = some (.int .i64 n) := H1.out.blk.cell 0
  have hn := hid H1.out.pos
  go_wp2_with fail
  refine (find2_any g n hn.out i q HQ.out w1 p0).mono ?_
  rintro e w' ⟨rfl, rfl⟩
  cases q with
  | false =>
    have bz := b1.out.setRow_same (ar 64 fun _ => 0)
    have bb := hid (below_setRow BEL.out (Nat.le_refl w.heap.size) (ar 64 fun _ => 0))
    go_wp2_with (first | ((with_reducible apply bldZr (n := 64)); kernel_rfl) | ((with_reducible apply stA tSe); rfl; rfl; exact b1.out))
    apply retA tSe Try.results29
    · rfl
    · rfl
    · rfl
    · exact bz
    · exact ⟨rfl, bb.out⟩
  | true =>
    have p1 : w1.cell? ⟨g, 2, none⟩ = some (.map (some rd)) := H1.out.blk.cell 2
    have bz := b1.out.setRow_same (ar 64 (D i))
    have bb := hid (below_setRow BEL.out (Nat.le_refl w.heap.size) (ar 64 (D i)))
    go_wp2_with (first | ((with_reducible apply wlookM); rfl; rfl; exact H1.out.dur) | ((with_reducible apply stA tSe); rfl; rfl; exact b1.out))
    apply retA tSe Try.results29
    · rfl
    · rfl
    · rfl
    · exact bz
    · exact ⟨rfl, bb.out⟩
theorem touched2_any (H : Mm w g rs rd vl vm ms n S D log marks f h) : Calls Try.prog 22 #[at' g] w fun e w' => e = .returned (.bool h) ∧ w = w' := by
  have p0 : w.cell? ⟨g, 0, none⟩ = some (.int .i64 n) := H.blk.cell 0
  have p6 : w.cell? ⟨g, 6, none⟩ = some (.bool h) := H.blk.cell 6
  have hn := hid H.pos
  unfold at'
  clear H
  go_enter Try.func22, Try.ntmps22
  go_wp2_with fail
  refine (made_any g n hn.out w p0).mono ?_
  rintro e w' ⟨rfl, rfl⟩
  go_wp2_with fail
  go_ret
  exact ⟨rfl, rfl⟩
theorem len2_any (H : Mm w g rs rd vl vm ms n S D log marks f h) : Calls Try.prog 30 #[at' g] w fun e w' => e = .returned (.int .i64 n) ∧ w = w' := by
  have p0 : w.cell? ⟨g, 0, none⟩ = some (.int .i64 n) := H.blk.cell 0
  have hn := hid H.pos
  unfold at'
  clear H
  go_enter Try.func30, Try.ntmps30
  go_wp2_with fail
  refine (made_any g n hn.out w p0).mono ?_
  rintro e w' ⟨rfl, rfl⟩
  go_wp2_with fail
  go_ret
  exact ⟨rfl, rfl⟩
theorem unflushed2_any (H : Mm w g rs rd vl vm ms n S D log marks f h) : Calls Try.prog 24 #[at' g] w fun e w' => e = .returned (.int .i64 (log.length : Nat)) ∧ w = w' := by
  have p0 : w.cell? ⟨g, 0, none⟩ = some (.int .i64 n) := H.blk.cell 0
  obtain ⟨A, c, e, _⟩ := H.lg.sli atL_len
  have p3 : w.cell? ⟨g, 3, none⟩ = some (.slice A log.length c) := by rw [← e]; exact H.blk.cell 3
  have hn := hid H.pos
  unfold at'
  clear H e
  go_enter Try.func24, Try.ntmps24
  go_wp2_with fail
  refine (made_any g n hn.out w p0).mono ?_
  rintro e w' ⟨rfl, rfl⟩
  go_wp2_with fail
  go_ret
  exact ⟨rfl, rfl⟩
theorem fail2_any (H : Mm w g rs rd vl vm ms n S D log marks f h) (q : Bool) : Calls Try.prog 25 #[at' g, .bool q] w fun e w' => e = .returned (.int .i64 0) ∧ Mm w' g rs rd vl vm ms n S D log marks q (h || q) ∧ Turn (fun b => b = g) w w' := by
  have p0 : w.cell? ⟨g, 0, none⟩ = some (.int .i64 n) := H.blk.cell 0
  have HH := hid H
  have hn := hid H.pos
  have fz := H.blk.frozen 5
  have p5 : w.cell? ⟨g, 5, none⟩ = some (.bool f) := H.blk.cell 5
  unfold at'
  clear H
  go_enter Try.func25, Try.ntmps25
  go_wp2_with fail
  refine (made_any g n hn.out w p0).mono ?_
  rintro e w' ⟨rfl, rfl⟩
  go_upto_region 4 with fail
  have b1 : Blk (w.setCell ⟨g, 5, none⟩ (.bool q)) g 58 (mbC7 n rs rd vl vm q h) := HH.out.blk.setCell_same 5 (.bool q)
  have tu := Turn.setCell (S := fun b => b = g) w ⟨g, 5, none⟩ (.bool q) rfl
  have H1 := hid (HH.out.flags q h tu b1)
  have TU := hid tu
  generalize World.setCell w _ _ = w1 at H1 TU ⊢
  have p6 : w1.cell? ⟨g, 6, none⟩ = some (.bool h) := H1.out.blk.cell 6
  have fz := H1.out.blk.frozen 6
  have b2 : Blk (w1.setCell ⟨g, 6, none⟩ (.bool (h || q))) g 58 (mbC7 n rs rd vl vm q (h || q)) := H1.out.blk.setCell_same 6 (.bool (h || q))
  have tu2 := Turn.setCell (S := fun b => b = g) w1 ⟨g, 6, none⟩ (.bool (h || q)) rfl
  have hfin := hid (And.intro (H1.out.flags q (h || q) tu2 b2) (TU.out.trans tu2 fun _ e => .inl e))
  clear HH b1 tu H1 TU b2 tu2
  cases h with
  | false =>
    go_wp2_with fail
    go_ret
    exact ⟨rfl, hfin.out⟩
  | true =>
    go_wp2_with fail
    go_ret
    exact ⟨rfl, hfin.out⟩
theorem clean2_any (H : Mm w g rs rd vl vm ms n S D log marks f h) : Calls Try.prog 28 #[at' g] w fun e w' => e = .returned (.tuple #[]) ∧ Mm w' g rs rd vl vm ms n S D log marks f false ∧ Turn (fun b => b = g) w w' := by
  have p0 : w.cell? ⟨g, 0, none⟩ = some (.int .i64 n) := H.blk.cell 0
  have hn := hid H.pos
  have fz := H.blk.frozen 6
  have p6 : w.cell? ⟨g, 6, none⟩ = some (.bool h) := H.blk.cell 6
  have b2 : Blk (w.setCell ⟨g, 6, none⟩ (.bool false)) g 58 (mbC7 n rs rd vl vm f false) := H.blk.setCell_same 6 (.bool false)
  have tu2 := Turn.setCell (S := fun b => b = g) w ⟨g, 6, none⟩ (.bool false) rfl
  have hfin := hid (And.intro (H.flags f false tu2 b2) tu2)
  unfold at'
  clear H b2 tu2
  go_enter Try.func28, Try.ntmps28
  go_wp2_with fail
  refine (made_any g n hn.out w p0).mono ?_
  rintro e w' ⟨rfl, rfl⟩
  go_wp2_with fail
  go_end0
  exact ⟨rfl, hfin.out⟩
end
end MbO
end Go.Proofs.Yteglhalninlapaa
