/-
  The document's member: Mark.
  A member in plain words: what each call tells, and what it leaves.
  The document's member, by what is seen and durable: its calls.
  What is wanted of the program's member: the contracts of its calls, over whatever it lays in memory; a member of the program's beside one of the document's.
  The document's member's calls, by what is seen and durable.
  The law's looks: the program's member and the document's tell the same of a sector.
  The type of slices of bytes; bytes out of a literal.
  append of bytes, as many as a memory holds.
  What is done to a member, as it comes in: 68 cells.
  The law's do: what is done to both is answered alike.
  The law's full; a member of the program's alone; reads.
  A region in the text's order, walked as one that draws it (a class of worlds is handed on; guards are read off).
  The law's reads, awake.
  The law's awake.
  MemberPlays: what is done to both is answered alike, and both tell the same.
  MemberCopies: a copy goes on as its member does, and neither knows of what is done to the other.
  The law's does.
-/
import Derived.Test.YteglhalninlapaaMrg2
set_option linter.unusedVariables false
set_option linter.unusedSimpArgs false
set_option maxRecDepth 100000
namespace Go.Proofs.Yteglhalninlapaa
open Go.ChangeShapes Go.WideShapes Go.ChangeAt Go.RowKit
attribute [local go_sem] Gives GivesE
namespace MbP
open MbM
theorem undSl : Try.prog.underlying 63 = some (.slice 62) := Try.underlying63
def markL (s : Ls) : Ls := if 64 ≤ s.marks.length then s else { s with marks := s.marks ++ [s.dur ++ s.log] }
def markE (s : Ls) : Int := if 64 ≤ s.marks.length then 7 else 0
def markN (s : Ls) : Int := if 64 ≤ s.marks.length then 0 else s.marks.length
/-- A slice of slices, the last of which is a list d. -/
def spM (S : Nat → Prop) (xs : List SlE) (d : List Pt) : Sp := ⟨fun v => ∃ (A : Option Addr) (c : Nat), v = .slice A (xs.length + 1) c,
  fun v w => ∃ (A : Option Addr) (c : Nat), v = .slice A (xs.length + 1) c ∧ ∃ (A' : Option Addr) (c' : Nat), Sli 1 slE S w A (xs ++ [(A', d.length, c')]) (xs.length + 1) c ∧ Sli 65 atL S w A' d d.length c', .slice none (xs.length + 1) 0⟩
theorem spM_ok (S : Nat → Prop) (xs : List SlE) (d : List Pt) : (spM S xs d).ok := ⟨⟨none, 0, rfl⟩, fun v w1 w2 ⟨A, c, h1, A', c', h2, h3⟩ hb => ⟨A, c, h1, A', c', h2.turn (Turn.of_new (S := fun _ => False) hb) fun _ _ _ e => e, h3.turn (Turn.of_new (S := fun _ => False) hb) fun _ _ _ e => e⟩⟩
theorem Rm.setMarks {w : World} {g : Nat} {I : Nat → Prop} {s : Ls} {A1 A2 A3 A : Option Addr} {c1 c2 c3 c : Nat} {ms : List (List Pt)} (h : Rm w g I s A1 c1 A2 c2 A3 c3)
    (hm : ∃ xs : List SlE, Sli 1 slE I w A xs ms.length c ∧ ∀ (i : Nat) (l : List Pt), ms[i]? = some l → ∃ A c, xs[i]? = some (A, l.length, c) ∧ Sli 65 atL I w A l l.length c) :
    Rm (w.setCell ⟨g, 3, none⟩ (.slice A ms.length c)) g I { s with marks := ms } A1 c1 A2 c2 A c := h.keep rfl h.dur h.log hm
set_option maxHeartbeats 800000 in
set_option maxRecDepth 100000 in
theorem mark_any (g : Nat) (I : Nat → Prop) (s : Ls) (hs : s.dur.length + s.log.length ≤ 400000) (w : World) (h : RM w g I s) :
    Calls Try.prog 37 #[.pointer (some ⟨g, 0, none⟩)] w fun e w' => e = .returned (.tuple #[.int .i64 (markN s), .int .i64 (markE s)]) ∧ RMo w g I (markL s) w' := by
  have HR := hid h
  obtain ⟨A1, c1, A2, c2, A3, c3, h⟩ := h
  have H1 := hid h
  have hgl := h.blk.lt
  have HS := hid hs
  have p3 : w.cell? ⟨g, 3, none⟩ = some (.slice A3 s.marks.length c3) := h.blk.cell 3
  clear h hs
  unfold markL markE markN
  by_cases hm : 64 ≤ s.marks.length
  · rw [if_pos hm, if_pos hm, if_pos hm]
    have t1 : (64 : Int) ≤ (s.marks.length : Int) := by omega
    clear hm
    go_enter Try.func37, Try.ntmps37
    go_wp2_with fail
    refine bodyPost_ret (results_tmp2 rfl _ _ _) rfl ?_
    exact ⟨rfl, RMo.same HR.out (Below.refl _ _)⟩
  · rw [if_neg hm, if_neg hm, if_neg hm]
    have t1 : decide ((64 : Int) ≤ (s.marks.length : Int)) = false := by simp; omega
    obtain ⟨xs, hxs, hxm⟩ := H1.out.marks
    obtain ⟨n, hn⟩ : ∃ n, n = s.marks.length := ⟨_, rfl⟩
    rw [← hn] at hxs p3 t1 hm ⊢
    have hxl : xs.length = n := hxs.len
    have hc3 : n ≤ c3 := hxs.cap
    have hcm : c3 ≤ 9223372036854775807 := by have := hxs.max; unfold maxLen at this; exact this
    have HXS := hid hxs
    have HXM := hid hxm
    have HXL := hid hxl
    have HN := hid hn
    have hm2 : n ≤ 64 := by omega
    clear hxs hxm hxl hn hm
    go_enter Try.func37, Try.ntmps37
    go_upto_region 3 with fail
    obtain ⟨D, hD⟩ : ∃ D, D = s.dur ++ s.log := ⟨_, rfl⟩
    have HD := hid hD
    clear hD
    refine wp_region_y [some (.pointer (some ⟨g, 0, none⟩)), some (.pointer (some ⟨g, 0, none⟩)), some (.pointer (some ⟨g, 0, none⟩)), some (.pointer (some ⟨g, 3, none⟩)), some (.slice A3 n c3), some (.pointer (some ⟨g, 0, none⟩)), some (.pointer (some ⟨g, 0, none⟩)), some (.pointer (some ⟨g, 3, none⟩)), some (.slice A3 n c3), some (.int .i64 n), some (.pointer (some ⟨g, 0, none⟩)), some (.pointer (some ⟨g, 0, none⟩)), some (.pointer (some ⟨g, 3, none⟩)), some (.slice A3 n c3), some (.int .i64 n), some (.slice A3 n n),
        some (.pointer (some ⟨g, 0, none⟩)), some (.pointer (some ⟨g, 0, none⟩)), some (.pointer (some ⟨g, 1, none⟩)), some (.slice A1 s.dur.length c1), some (.pointer (some ⟨g, 0, none⟩)), some (.pointer (some ⟨g, 0, none⟩)), some (.pointer (some ⟨g, 2, none⟩)), some (.slice A2 s.log.length c2), none, none, none, some (.pointer (some ⟨g, 0, none⟩)), some (.pointer (some ⟨g, 3, none⟩))]
      [(24, spX 65 atL (fun b => w.heap.size ≤ b) D), (25, spM (fun b => w.heap.size ≤ b) [] D), (26, spM (fun b => w.heap.size ≤ b) xs D)] (fun y hy => by simp only [List.mem_cons, List.not_mem_nil, or_false] at hy; rcases hy with rfl | rfl | rfl <;> first | exact spX_ok _ _ _ _ | exact spM_ok _ _ _) 29 (by kernel_rfl) (by kernel_rfl) (by kernel_rfl) fun vs => ?_
    simp only [List.take_succ_cons, List.take_zero, List.drop_succ_cons, List.drop_zero]
    have CM := hid (show ∀ w', Below w.heap.size w w' → w'.cell? ⟨g, 3, none⟩ = some (.slice A3 n c3) from fun w' hC => by rw [HN.out]; exact (H1.out.below hC (Nat.le_refl _)).blk.cell 3)
    refine ⟨.inl ⟨rfl, fun dd w' hd hC hDs => ?_⟩, fun e => ?_⟩
    · go_simp
      first | exact ⟨rfl, hC, Below.refl _ _, trivial⟩ | exact ⟨rfl, Below.refl _ _, trivial⟩ | exact ⟨hC, Below.refl _ _, trivial⟩
    have e' : vs 0 = _ := e
    rw [e']
    clear e e'
    simp only [Act.put, List.setIfInBounds_toArray, List.set_cons_succ, List.set_cons_zero]
    refine ⟨.inl ⟨rfl, fun dd w' hd hC hDs => ?_⟩, fun e => ?_⟩
    · go_simp
      first | exact ⟨rfl, hC, Below.refl _ _, trivial⟩ | exact ⟨rfl, Below.refl _ _, trivial⟩ | exact ⟨hC, Below.refl _ _, trivial⟩
    have e' : vs 1 = _ := e
    rw [e']
    clear e e'
    simp only [Act.put, List.setIfInBounds_toArray, List.set_cons_succ, List.set_cons_zero]
    refine ⟨.inl ⟨rfl, fun dd w' hd hC hDs => ?_⟩, fun e => ?_⟩
    · go_simp
      first | exact ⟨rfl, hC, Below.refl _ _, trivial⟩ | exact ⟨rfl, Below.refl _ _, trivial⟩ | exact ⟨hC, Below.refl _ _, trivial⟩
    have e' : vs 2 = _ := e
    rw [e']
    clear e e'
    simp only [Act.put, List.setIfInBounds_toArray, List.set_cons_succ, List.set_cons_zero]
    refine ⟨.inl ⟨rfl, fun dd w' hd hC hDs => ?_⟩, fun e => ?_⟩
    · go_simp
      first | exact ⟨rfl, hC, Below.refl _ _, trivial⟩ | exact ⟨rfl, Below.refl _ _, trivial⟩ | exact ⟨hC, Below.refl _ _, trivial⟩
    have e' : vs 3 = _ := e
    rw [e']
    clear e e'
    simp only [Act.put, List.setIfInBounds_toArray, List.set_cons_succ, List.set_cons_zero]
    refine ⟨.inl ⟨rfl, fun dd w' hd hC hDs => ?_⟩, fun e => ?_⟩
    · have h1 : w'.cell? ⟨g, 3, none⟩ = some (.slice A3 n c3) := CM.out w' hC
      go_simp
      first | exact ⟨rfl, hC, Below.refl _ _, trivial⟩ | exact ⟨rfl, Below.refl _ _, trivial⟩ | exact ⟨hC, Below.refl _ _, trivial⟩
    have e' : vs 4 = _ := e
    rw [e']
    clear e e'
    simp only [Act.put, List.setIfInBounds_toArray, List.set_cons_succ, List.set_cons_zero]
    refine ⟨.inl ⟨rfl, fun dd w' hd hC hDs => ?_⟩, fun e => ?_⟩
    · go_simp
      first | exact ⟨rfl, hC, Below.refl _ _, trivial⟩ | exact ⟨rfl, Below.refl _ _, trivial⟩ | exact ⟨hC, Below.refl _ _, trivial⟩
    have e' : vs 5 = _ := e
    rw [e']
    clear e e'
    simp only [Act.put, List.setIfInBounds_toArray, List.set_cons_succ, List.set_cons_zero]
    refine ⟨.inl ⟨rfl, fun dd w' hd hC hDs => ?_⟩, fun e => ?_⟩
    · go_simp
      first | exact ⟨rfl, hC, Below.refl _ _, trivial⟩ | exact ⟨rfl, Below.refl _ _, trivial⟩ | exact ⟨hC, Below.refl _ _, trivial⟩
    have e' : vs 6 = _ := e
    rw [e']
    clear e e'
    simp only [Act.put, List.setIfInBounds_toArray, List.set_cons_succ, List.set_cons_zero]
    refine ⟨.inl ⟨rfl, fun dd w' hd hC hDs => ?_⟩, fun e => ?_⟩
    · go_simp
      first | exact ⟨rfl, hC, Below.refl _ _, trivial⟩ | exact ⟨rfl, Below.refl _ _, trivial⟩ | exact ⟨hC, Below.refl _ _, trivial⟩
    have e' : vs 7 = _ := e
    rw [e']
    clear e e'
    simp only [Act.put, List.setIfInBounds_toArray, List.set_cons_succ, List.set_cons_zero]
    refine ⟨.inl ⟨rfl, fun dd w' hd hC hDs => ?_⟩, fun e => ?_⟩
    · have h1 : w'.cell? ⟨g, 3, none⟩ = some (.slice A3 n c3) := CM.out w' hC
      go_simp
      first | exact ⟨rfl, hC, Below.refl _ _, trivial⟩ | exact ⟨rfl, Below.refl _ _, trivial⟩ | exact ⟨hC, Below.refl _ _, trivial⟩
    have e' : vs 8 = _ := e
    rw [e']
    clear e e'
    simp only [Act.put, List.setIfInBounds_toArray, List.set_cons_succ, List.set_cons_zero]
    refine ⟨.inl ⟨rfl, fun dd w' hd hC hDs => ?_⟩, fun e => ?_⟩
    · go_simp
      first | exact ⟨rfl, hC, Below.refl _ _, trivial⟩ | exact ⟨rfl, Below.refl _ _, trivial⟩ | exact ⟨hC, Below.refl _ _, trivial⟩
    have e' : vs 9 = _ := e
    rw [e']
    clear e e'
    simp only [Act.put, List.setIfInBounds_toArray, List.set_cons_succ, List.set_cons_zero]
    refine ⟨.inl ⟨rfl, fun dd w' hd hC hDs => ?_⟩, fun e => ?_⟩
    · go_simp
      first | exact ⟨rfl, hC, Below.refl _ _, trivial⟩ | exact ⟨rfl, Below.refl _ _, trivial⟩ | exact ⟨hC, Below.refl _ _, trivial⟩
    have e' : vs 10 = _ := e
    rw [e']
    clear e e'
    simp only [Act.put, List.setIfInBounds_toArray, List.set_cons_succ, List.set_cons_zero]
    refine ⟨.inl ⟨rfl, fun dd w' hd hC hDs => ?_⟩, fun e => ?_⟩
    · go_simp
      first | exact ⟨rfl, hC, Below.refl _ _, trivial⟩ | exact ⟨rfl, Below.refl _ _, trivial⟩ | exact ⟨hC, Below.refl _ _, trivial⟩
    have e' : vs 11 = _ := e
    rw [e']
    clear e e'
    simp only [Act.put, List.setIfInBounds_toArray, List.set_cons_succ, List.set_cons_zero]
    refine ⟨.inl ⟨rfl, fun dd w' hd hC hDs => ?_⟩, fun e => ?_⟩
    · go_simp
      first | exact ⟨rfl, hC, Below.refl _ _, trivial⟩ | exact ⟨rfl, Below.refl _ _, trivial⟩ | exact ⟨hC, Below.refl _ _, trivial⟩
    have e' : vs 12 = _ := e
    rw [e']
    clear e e'
    simp only [Act.put, List.setIfInBounds_toArray, List.set_cons_succ, List.set_cons_zero]
    refine ⟨.inl ⟨rfl, fun dd w' hd hC hDs => ?_⟩, fun e => ?_⟩
    · have h1 : w'.cell? ⟨g, 3, none⟩ = some (.slice A3 n c3) := CM.out w' hC
      go_simp
      first | exact ⟨rfl, hC, Below.refl _ _, trivial⟩ | exact ⟨rfl, Below.refl _ _, trivial⟩ | exact ⟨hC, Below.refl _ _, trivial⟩
    have e' : vs 13 = _ := e
    rw [e']
    clear e e'
    simp only [Act.put, List.setIfInBounds_toArray, List.set_cons_succ, List.set_cons_zero]
    refine ⟨.inl ⟨rfl, fun dd w' hd hC hDs => ?_⟩, fun e => ?_⟩
    · go_simp
      first | exact ⟨rfl, hC, Below.refl _ _, trivial⟩ | exact ⟨rfl, Below.refl _ _, trivial⟩ | exact ⟨hC, Below.refl _ _, trivial⟩
    have e' : vs 14 = _ := e
    rw [e']
    clear e e'
    simp only [Act.put, List.setIfInBounds_toArray, List.set_cons_succ, List.set_cons_zero]
    refine ⟨.inl ⟨rfl, fun dd w' hd hC hDs => ?_⟩, fun e => ?_⟩
    · have h1 : (n : Int) ≤ (c3 : Int) := by omega
      go_simp
      first | exact ⟨rfl, hC, Below.refl _ _, trivial⟩ | exact ⟨rfl, Below.refl _ _, trivial⟩ | exact ⟨hC, Below.refl _ _, trivial⟩
    have e' : vs 15 = _ := e
    rw [e']
    clear e e'
    simp only [Act.put, List.setIfInBounds_toArray, List.set_cons_succ, List.set_cons_zero]
    refine ⟨.inl ⟨rfl, fun dd w' hd hC hDs => ?_⟩, fun e => ?_⟩
    · go_simp
      first | exact ⟨rfl, hC, Below.refl _ _, trivial⟩ | exact ⟨rfl, Below.refl _ _, trivial⟩ | exact ⟨hC, Below.refl _ _, trivial⟩
    have e' : vs 16 = _ := e
    rw [e']
    clear e e'
    simp only [Act.put, List.setIfInBounds_toArray, List.set_cons_succ, List.set_cons_zero]
    refine ⟨.inl ⟨rfl, fun dd w' hd hC hDs => ?_⟩, fun e => ?_⟩
    · go_simp
      first | exact ⟨rfl, hC, Below.refl _ _, trivial⟩ | exact ⟨rfl, Below.refl _ _, trivial⟩ | exact ⟨hC, Below.refl _ _, trivial⟩
    have e' : vs 17 = _ := e
    rw [e']
    clear e e'
    simp only [Act.put, List.setIfInBounds_toArray, List.set_cons_succ, List.set_cons_zero]
    refine ⟨.inl ⟨rfl, fun dd w' hd hC hDs => ?_⟩, fun e => ?_⟩
    · go_simp
      first | exact ⟨rfl, hC, Below.refl _ _, trivial⟩ | exact ⟨rfl, Below.refl _ _, trivial⟩ | exact ⟨hC, Below.refl _ _, trivial⟩
    have e' : vs 18 = _ := e
    rw [e']
    clear e e'
    simp only [Act.put, List.setIfInBounds_toArray, List.set_cons_succ, List.set_cons_zero]
    refine ⟨.inl ⟨rfl, fun dd w' hd hC hDs => ?_⟩, fun e => ?_⟩
    · have h1 : w'.cell? ⟨g, 1, none⟩ = some (.slice A1 s.dur.length c1) := (H1.out.below hC (Nat.le_refl _)).blk.cell 1
      go_simp
      first | exact ⟨rfl, hC, Below.refl _ _, trivial⟩ | exact ⟨rfl, Below.refl _ _, trivial⟩ | exact ⟨hC, Below.refl _ _, trivial⟩
    have e' : vs 19 = _ := e
    rw [e']
    clear e e'
    simp only [Act.put, List.setIfInBounds_toArray, List.set_cons_succ, List.set_cons_zero]
    refine ⟨.inl ⟨rfl, fun dd w' hd hC hDs => ?_⟩, fun e => ?_⟩
    · go_simp
      first | exact ⟨rfl, hC, Below.refl _ _, trivial⟩ | exact ⟨rfl, Below.refl _ _, trivial⟩ | exact ⟨hC, Below.refl _ _, trivial⟩
    have e' : vs 20 = _ := e
    rw [e']
    clear e e'
    simp only [Act.put, List.setIfInBounds_toArray, List.set_cons_succ, List.set_cons_zero]
    refine ⟨.inl ⟨rfl, fun dd w' hd hC hDs => ?_⟩, fun e => ?_⟩
    · go_simp
      first | exact ⟨rfl, hC, Below.refl _ _, trivial⟩ | exact ⟨rfl, Below.refl _ _, trivial⟩ | exact ⟨hC, Below.refl _ _, trivial⟩
    have e' : vs 21 = _ := e
    rw [e']
    clear e e'
    simp only [Act.put, List.setIfInBounds_toArray, List.set_cons_succ, List.set_cons_zero]
    refine ⟨.inl ⟨rfl, fun dd w' hd hC hDs => ?_⟩, fun e => ?_⟩
    · go_simp
      first | exact ⟨rfl, hC, Below.refl _ _, trivial⟩ | exact ⟨rfl, Below.refl _ _, trivial⟩ | exact ⟨hC, Below.refl _ _, trivial⟩
    have e' : vs 22 = _ := e
    rw [e']
    clear e e'
    simp only [Act.put, List.setIfInBounds_toArray, List.set_cons_succ, List.set_cons_zero]
    refine ⟨.inl ⟨rfl, fun dd w' hd hC hDs => ?_⟩, fun e => ?_⟩
    · have h1 : w'.cell? ⟨g, 2, none⟩ = some (.slice A2 s.log.length c2) := (H1.out.below hC (Nat.le_refl _)).blk.cell 2
      go_simp
      first | exact ⟨rfl, hC, Below.refl _ _, trivial⟩ | exact ⟨rfl, Below.refl _ _, trivial⟩ | exact ⟨hC, Below.refl _ _, trivial⟩
    have e' : vs 23 = _ := e
    rw [e']
    clear e e'
    simp only [Act.put, List.setIfInBounds_toArray, List.set_cons_succ, List.set_cons_zero]
    refine ⟨.inl ⟨rfl, fun dd w' hd hC hDs => ?_⟩, fun e => ?_⟩
    · go_simp
      have hw := H1.out.below hC (Nat.le_refl _)
      refine (joined_any I I A1 A2 s.dur s.log _ _ c1 c2 (by have := HS.out; omega) w' hw.dur hw.log).mono ?_
      rintro e w3 ⟨v, rfl, o3, h3⟩
      rw [← HD.out] at o3
      obtain ⟨A, c, rfl, s3⟩ := o3.sli atL_len
      exact ⟨_, rfl, ⟨A, c, rfl⟩, hC.trans (h3.mono hC.size), h3, yD_some rfl ⟨A, c, rfl, s3.mono fun b hb => Nat.le_trans hC.size hb⟩⟩
    obtain ⟨A8, c8, e'⟩ : ∃ (A : Option Addr) (c : Nat), vs 24 = .slice A D.length c := e
    rw [e']
    have E8 := hid e'
    clear e'
    simp only [Act.put, List.setIfInBounds_toArray, List.set_cons_succ, List.set_cons_zero]
    refine ⟨.inl ⟨rfl, fun dd w' hd hC hDs => ?_⟩, fun e => ?_⟩
    · obtain ⟨A', c', f, sl⟩ := hDs 24 (by kernel_rfl)
      rw [E8.out] at f
      cases f
      have ha := (Below.refl w'.heap.size w').alloc (Nat.le_refl _) (.cells (slE (A8, D.length, c8)).toArray 62)
      exact gE_lit1 (x := ((A8, D.length, c8) : SlE)) eltSl undSl (by omega) rfl rfl ⟨⟨_, _, rfl⟩, hC.trans (ha.mono hC.size), ha, yD_some rfl ⟨_, _, rfl, A8, c8, sli_lit1 eltSl ((A8, D.length, c8) : SlE) w' hC.size, sl.turn (Turn.of_new (S := fun _ => False) ha) fun _ _ _ e => e⟩⟩
    obtain ⟨A9, c9, e'⟩ : ∃ (A : Option Addr) (c : Nat), vs 25 = .slice A 1 c := e
    rw [e']
    have E9 := hid e'
    clear e'
    simp only [Act.put, List.setIfInBounds_toArray, List.set_cons_succ, List.set_cons_zero]
    refine ⟨.inl ⟨rfl, fun dd w' hd hC hDs => ?_⟩, fun e => ?_⟩
    · obtain ⟨A', c', f, A5, c5, sl, sd⟩ := hDs 25 (by kernel_rfl)
      rw [E9.out] at f
      cases f
      have hfull : Sli 1 slE I w' A3 xs n n := by
        have h := HXS.out.turn (Turn.of_new (S := fun _ => False) hC) fun _ _ _ e => e
        refine ⟨h.len, Nat.le_refl _, by have := h.cap; have := h.max; omega, fun e => ⟨(h.none e).1, (h.none e).1⟩, h.lst⟩
      refine gE_full (m := [] ++ [((A5, D.length, c5) : SlE)]) eltSl undSl rfl rfl hfull sl (by show 0 < 1; omega) (by show n + 1 ≤ 1000000; omega) (by omega) fun A' c' w3 h1 h2 => ?_
      have h1' : Sli 1 slE (fun b => w.heap.size ≤ b) w3 A' (xs ++ [(A5, D.length, c5)]) (xs.length + 1) c' := by rw [HXL.out]; exact h1.mono fun b hb => Nat.le_trans hC.size hb
      exact ⟨⟨A', c', by rw [HXL.out]⟩, hC.trans (h2.mono hC.size), h2, yD_some rfl ⟨A', c', by rw [HXL.out], A5, c5, h1', sd.turn (Turn.of_new (S := fun _ => False) h2) fun _ _ _ e => e⟩⟩
    obtain ⟨A7, c7, e'⟩ : ∃ (A : Option Addr) (c : Nat), vs 26 = .slice A (n + 1) c := by have h := e; rw [← HXL.out]; exact h
    rw [e']
    have E7 := hid e'
    clear e e'
    simp only [Act.put, List.setIfInBounds_toArray, List.set_cons_succ, List.set_cons_zero]
    refine ⟨.inl ⟨rfl, fun dd w' hd hC hDs => ?_⟩, fun e => ?_⟩
    · go_simp
      first | exact ⟨rfl, hC, Below.refl _ _, trivial⟩ | exact ⟨rfl, Below.refl _ _, trivial⟩ | exact ⟨hC, Below.refl _ _, trivial⟩
    have e' : vs 27 = _ := e
    rw [e']
    clear e e'
    simp only [Act.put, List.setIfInBounds_toArray, List.set_cons_succ, List.set_cons_zero]
    refine ⟨.inl ⟨rfl, fun dd w' hd hC hDs => ?_⟩, fun e => ?_⟩
    · go_simp
      first | exact ⟨rfl, hC, Below.refl _ _, trivial⟩ | exact ⟨rfl, Below.refl _ _, trivial⟩ | exact ⟨hC, Below.refl _ _, trivial⟩
    have e' : vs 28 = _ := e
    rw [e']
    clear e e'
    simp only [Act.put, List.setIfInBounds_toArray, List.set_cons_succ, List.set_cons_zero]
    intro dd w3 hall hC3 hDs
    obtain ⟨A', c', f, A5, c5, sl, sd⟩ := hDs 26 (by omega)
    rw [E7.out, HXL.out] at f
    cases f
    have H3 := H1.out.below hC3 (Nat.le_refl _)
    have q3 : w3.cell? ⟨g, 3, none⟩ = some (.slice A3 n c3) := CM.out w3 hC3
    have fz := H3.blk.frozen 3
    have H4 := H3.nw (B := w.heap.size) hgl
    have hmk : ∃ ys : List SlE, Sli 1 slE (nw I w.heap.size w3) w3 A7 ys (s.marks ++ [D]).length c7 ∧ ∀ (i : Nat) (l : List Pt), (s.marks ++ [D])[i]? = some l → ∃ A c, ys[i]? = some (A, l.length, c) ∧ Sli 65 atL (nw I w.heap.size w3) w3 A l l.length c := by
      refine ⟨xs ++ [(A5, D.length, c5)], ?_, fun i l hi => ?_⟩
      · rw [HXL.out] at sl
        rw [List.length_append, List.length_singleton, ← HN.out]
        exact sl.bound.mono fun b hb => .inr hb
      · by_cases hin : i < s.marks.length
        · rw [List.getElem?_append_left hin] at hi
          obtain ⟨A, c, h1, h2⟩ := HXM.out i l hi
          exact ⟨A, c, by rw [List.getElem?_append_left (by rw [HXL.out, HN.out]; exact hin)]; exact h1, (h2.turn (Turn.of_new (S := fun _ => False) hC3) fun _ _ _ e => e).mono fun b hb => .inl hb⟩
        · have hie : i = s.marks.length := by
            have := (List.getElem?_eq_some_iff.1 hi).1
            rw [List.length_append, List.length_singleton] at this
            omega
          subst hie
          rw [List.getElem?_append_right (Nat.le_refl _), Nat.sub_self] at hi
          obtain rfl : D = l := by simpa using hi
          exact ⟨A5, c5, by rw [List.getElem?_append_right (by rw [HXL.out, HN.out]; exact Nat.le_refl _), HXL.out, HN.out, Nat.sub_self]; rfl, sd.bound.mono fun b hb => .inr hb⟩
    have H5 := hid (H4.setMarks hmk)
    have T5 := hid ((Turn.of_new (S := fun b => b = g) hC3).trans (tgt (w := w3) (g := g) (j := 3) (v := .slice A7 (s.marks ++ [D]).length c7)) (fun k h => Or.inl h))
    rw [show (s.marks ++ [D]).length = n + 1 by rw [List.length_append, List.length_singleton, ← HN.out]] at H5 T5
    have B3 := hid hC3
    clear H3 H4 hmk hall hC3 hDs sl sd E7 E8 E9 CM H1 HXS HXM p3
    go_upto_region 4 with fail
    generalize w3.setCell ⟨g, 3, none⟩ (.slice A7 (n + 1) c7) = w4 at H5 T5 ⊢
    have q4 : w4.cell? ⟨g, 3, none⟩ = some (.slice A7 (n + 1) c7) := by
      have := H5.out.blk.cell 3
      rw [this]
      show some (Value.slice A7 (s.marks ++ [D]).length c7) = _
      rw [List.length_append, List.length_singleton, ← HN.out]
    clear q3 fz
    go_wp2_with fail
    refine bodyPost_ret (results_tmp2 rfl _ _ _) rfl ?_
    refine ⟨rfl, nw I w.heap.size w3, ⟨_, _, _, _, _, _, by rw [← HD.out]; exact H5.out⟩, fun b hb => hb.imp id And.left, T5.out⟩
end MbP
end Go.Proofs.Yteglhalninlapaa
set_option maxRecDepth 100000
namespace Go.Proofs.Yteglhalninlapaa
namespace MbM
def St.may (st : St) (i : Int) : Bool := decide (0 ≤ i ∧ i < st.n)
def rdE (st : St) (i : Int) : Int := if st.may i then (if st.fails then 10 else 0) else 2
def rdS (st : St) (i : Int) : Nat → Nat := if st.may i then (if st.fails then zero else seen st i) else zero
def lkE (st : St) (i : Int) : Int := if st.may i then 0 else 2
def lkS (st : St) (i : Int) : Nat → Nat := if st.may i then st.dur i else zero
def wrT (st : St) (i : Int) (x : Nat → Nat) : St := if st.may i then (if st.fails then st else write st i x) else st
def flE (st : St) : Int := if st.fails then 10 else 0
def flT (st : St) : St := if st.fails then st else flush st
def seT (st : St) (i : Int) (x : Nat → Nat) : St := if st.may i then set st i x else st
def mkE (st : St) : Int := if 64 ≤ st.marks.length then 7 else 0
def mkN (st : St) : Int := if 64 ≤ st.marks.length then 0 else st.marks.length
def mkT (st : St) : St := if 64 ≤ st.marks.length then st else mark st
def bkE (st : St) (n : Int) : Int := if n < 0 ∨ (st.marks.length : Int) ≤ n then 2 else 0
def bkT (st : St) (n : Int) : St := if n < 0 ∨ (st.marks.length : Int) ≤ n then st else back st n.toNat
/-- Bytes, all of them. -/
def St.ok (st : St) : Prop := (∀ i k, st.dur i k < 256) ∧ (∀ p ∈ st.log, ∀ k, p.s k < 256) ∧ ∀ m ∈ st.marks, ∀ i k, (m : Img) i k < 256
theorem app_lt {d : Img} {l : List Pt} (hd : ∀ i k, d i k < 256) (hl : ∀ p ∈ l, ∀ k, p.s k < 256) : ∀ i k, app d l i k < 256 := by
  induction l generalizing d with
  | nil => exact hd
  | cons p l ih =>
    rw [app_cons]
    refine ih (fun i k => ?_) fun q hq => hl q (List.mem_cons_of_mem _ hq)
    unfold upd
    split
    · exact hl p List.mem_cons_self k
    · exact hd i k
theorem zero_lt (k : Nat) : zero k < 256 := by unfold zero; omega
theorem kept_mem {l : List Pt} {picks : List Nat} {p : Pt} (h : p ∈ kept l picks) : p ∈ l := by
  unfold kept keptN at h
  obtain ⟨k, _, hk⟩ := List.mem_flatMap.1 h
  split at hk
  · cases hk
  · cases e : l[k]? with
    | none => rw [e] at hk; cases hk
    | some q =>
      rw [e] at hk
      simp only [Option.toList_some, List.mem_singleton] at hk
      subst hk
      exact List.mem_of_getElem? e
theorem made_ok (n : Int) : (made n).ok := ⟨fun _ k => zero_lt k, fun p hp => (by cases hp), fun m hm => (by cases hm)⟩
theorem seen_lt {st : St} (h : st.ok) : ∀ i k, seen st i k < 256 := app_lt h.1 h.2.1
theorem wr_ok {st : St} (h : st.ok) (i : Int) {x : Nat → Nat} (hx : ∀ k, x k < 256) : (wrT st i x).ok := by
  unfold wrT
  split
  · split
    · exact h
    · refine ⟨h.1, fun p hp => ?_, h.2.2⟩
      rcases List.mem_append.1 hp with hp | hp
      · exact h.2.1 p hp
      · rw [List.mem_singleton] at hp; subst hp; exact hx
  · exact h
theorem fl_ok {st : St} (h : st.ok) : (flT st).ok := by
  unfold flT
  split
  · exact h
  · exact ⟨app_lt h.1 h.2.1, fun p hp => (by cases hp), h.2.2⟩
theorem cr_ok {st : St} (h : st.ok) (picks : List Nat) : (crash st picks).ok := ⟨app_lt h.1 fun p hp => h.2.1 p (kept_mem hp), fun p hp => (by cases hp), h.2.2⟩
theorem se_ok {st : St} (h : st.ok) (i : Int) {x : Nat → Nat} (hx : ∀ k, x k < 256) : (seT st i x).ok := by
  unfold seT
  split
  · refine ⟨fun j k => ?_, fun p hp => h.2.1 p (List.mem_filter.1 hp).1, h.2.2⟩
    show upd st.dur ⟨i, x⟩ j k < 256
    unfold upd
    split
    · exact hx k
    · exact h.1 j k
  · exact h
theorem mk_ok {st : St} (h : st.ok) : (mkT st).ok := by
  unfold mkT
  split
  · exact h
  · refine ⟨h.1, h.2.1, fun m hm => ?_⟩
    rcases List.mem_append.1 hm with hm | hm
    · exact h.2.2 m hm
    · rw [List.mem_singleton] at hm; subst hm; exact seen_lt h
theorem bk_ok {st : St} (h : st.ok) (n : Int) : (bkT st n).ok := by
  unfold bkT
  split
  · exact h
  · refine ⟨fun i k => ?_, fun p hp => (by cases hp), h.2.2⟩
    show (st.marks.getD n.toNat fun _ => zero) i k < 256
    rw [List.getD_eq_getElem?_getD]
    cases e : st.marks[n.toNat]? with
    | none => exact zero_lt k
    | some m => exact h.2.2 m (List.mem_of_getElem? e) i k
theorem fa_ok {st : St} (h : st.ok) (q : Bool) : (fail st q).ok := ⟨h.1, h.2.1, h.2.2⟩
theorem cl_ok {st : St} (h : st.ok) : (clean st).ok := ⟨h.1, h.2.1, h.2.2⟩
end MbM
end Go.Proofs.Yteglhalninlapaa
set_option maxRecDepth 100000
namespace Go.Proofs.Yteglhalninlapaa
open Go.ChangeShapes Go.WideShapes Go.ChangeAt Go.RowKit
namespace MbP
open MbM
theorem sem_may (s : Ls) (i : Int) : s.sem.may i = s.may i := rfl
theorem sem_wr (s : Ls) (i : Int) (x : Nat → Nat) : (wrL s i x).sem = wrT s.sem i x := by
  unfold wrL wrT
  rw [sem_may]
  by_cases hm : s.may i = true
  · rw [if_pos hm, if_pos hm]
    by_cases hf : s.fails = true
    · rw [if_pos hf, if_pos (show s.sem.fails = true from hf)]
    · rw [if_neg hf, if_neg (show ¬ s.sem.fails = true from hf)]; rfl
  · rw [if_neg hm, if_neg hm]
theorem sem_fl (s : Ls) : (flL s).sem = flT s.sem := by
  unfold flL flT
  by_cases hf : s.fails = true
  · rw [if_pos hf, if_pos (show s.sem.fails = true from hf)]
  · rw [if_neg hf, if_neg (show ¬ s.sem.fails = true from hf)]
    show (⟨s.n, img (s.dur ++ s.log), [], s.marks.map img, s.fails, s.hurt⟩ : St) = ⟨s.n, app (img s.dur) s.log, [], s.marks.map img, s.fails, s.hurt⟩
    rw [img_append]
theorem sem_cr (s : Ls) (picks : List Nat) : (crashL s picks).sem = crash s.sem picks := by
  unfold crashL Ls.sem crash
  simp only [img_append]
theorem sem_se (s : Ls) (i : Int) (x : Nat → Nat) : (setL s i x).sem = seT s.sem i x := by
  unfold setL seT
  rw [sem_may]
  by_cases hm : s.may i = true
  · rw [if_pos hm, if_pos hm]
    show (⟨s.n, img (s.dur ++ [⟨i, x⟩]), oth s.log i, s.marks.map img, s.fails, true⟩ : St) = ⟨s.n, upd (img s.dur) ⟨i, x⟩, s.log.filter fun p => decide (p.i ≠ i), s.marks.map img, s.fails, true⟩
    rw [img_append]
    rfl
  · rw [if_neg hm, if_neg hm]
theorem sem_mk (s : Ls) : (markL s).sem = mkT s.sem := by
  unfold markL mkT
  show (if 64 ≤ s.marks.length then s else _).sem = if 64 ≤ (s.marks.map img).length then s.sem else _
  rw [List.length_map]
  by_cases h : 64 ≤ s.marks.length
  · rw [if_pos h, if_pos h]
  · rw [if_neg h, if_neg h]
    show (⟨s.n, img s.dur, s.log, (s.marks ++ [s.dur ++ s.log]).map img, s.fails, s.hurt⟩ : St) = ⟨s.n, img s.dur, s.log, s.marks.map img ++ [app (img s.dur) s.log], s.fails, s.hurt⟩
    rw [List.map_append, List.map_cons, List.map_nil, img_append]
theorem sem_bk (s : Ls) (n : Int) : (backL s n).sem = bkT s.sem n := by
  unfold backL bkT
  show (if n < 0 ∨ (s.marks.length : Int) ≤ n then s else _).sem = if n < 0 ∨ ((s.marks.map img).length : Int) ≤ n then s.sem else _
  rw [List.length_map]
  by_cases h : n < 0 ∨ (s.marks.length : Int) ≤ n
  · rw [if_pos h, if_pos h]
  · rw [if_neg h, if_neg h]
    have e : img (s.marks.getD n.toNat []) = (s.marks.map img).getD n.toNat fun _ => zero := by
      rw [List.getD_eq_getElem?_getD, List.getD_eq_getElem?_getD, List.getElem?_map]
      cases s.marks[n.toNat]? <;> rfl
    show (⟨s.n, img (s.marks.getD n.toNat []), [], s.marks.map img, s.fails, true⟩ : St) = ⟨s.n, (s.marks.map img).getD n.toNat fun _ => zero, [], s.marks.map img, s.fails, true⟩
    rw [e]
theorem sem_fa (s : Ls) (q : Bool) : (failL s q).sem = fail s.sem q := rfl
theorem sem_made (n : Int) : (Ls.made n).sem = made n := rfl
theorem sem_rdS (s : Ls) (i : Int) : readS s i = rdS s.sem i := by
  unfold readS rdS
  rw [sem_may, seenL_sem]
  rfl
theorem sem_rdE (s : Ls) (i : Int) : readE s i = rdE s.sem i := rfl
theorem sem_lkS (s : Ls) (i : Int) : lookS s i = lkS s.sem i := by
  unfold lookS lkS
  rw [sem_may]
  show (if s.may i = true then _ else _) = if s.may i = true then img s.dur i else zero
  rw [img_find]
theorem sem_lkE (s : Ls) (i : Int) : lookE s i = lkE s.sem i := rfl
theorem sem_flE (s : Ls) : flE s = MbM.flE s.sem := rfl
theorem sem_mkE (s : Ls) : markE s = mkE s.sem := by
  unfold markE mkE
  show _ = if 64 ≤ (s.marks.map img).length then (7 : Int) else 0
  rw [List.length_map]
theorem sem_mkN (s : Ls) : markN s = mkN s.sem := by
  unfold markN mkN
  show _ = if 64 ≤ (s.marks.map img).length then (0 : Int) else (s.marks.map img).length
  rw [List.length_map]
theorem sem_bkE (s : Ls) (n : Int) : backE s n = bkE s.sem n := by
  unfold backE bkE
  show _ = if n < 0 ∨ ((s.marks.map img).length : Int) ≤ n then (2 : Int) else 0
  rw [List.length_map]
/-- How long its lists are. -/
def Ls.le (s : Ls) (k : Nat) : Prop := s.dur.length + s.log.length ≤ k ∧ ∀ m ∈ s.marks, m.length ≤ k
theorem le_mono {s : Ls} {k k' : Nat} (h : s.le k) (hk : k ≤ k') : s.le k' := ⟨Nat.le_trans h.1 hk, fun m hm => Nat.le_trans (h.2 m hm) hk⟩
theorem le_wr {s : Ls} {k : Nat} (h : s.le k) (i : Int) (x : Nat → Nat) : (wrL s i x).le (k + 1) := by
  unfold wrL
  split
  · split
    · exact le_mono h (by omega)
    · exact ⟨by show s.dur.length + (s.log ++ [_]).length ≤ _; rw [List.length_append, List.length_singleton]; have := h.1; omega, fun m hm => Nat.le_succ_of_le (h.2 m hm)⟩
  · exact le_mono h (by omega)
theorem le_fl {s : Ls} {k : Nat} (h : s.le k) : (flL s).le (k + 1) := by
  unfold flL
  split
  · exact le_mono h (by omega)
  · exact ⟨by show (s.dur ++ s.log).length + 0 ≤ _; rw [List.length_append]; have := h.1; omega, fun m hm => Nat.le_succ_of_le (h.2 m hm)⟩
theorem le_cr {s : Ls} {k : Nat} (h : s.le k) (picks : List Nat) : (crashL s picks).le (k + 1) :=
  ⟨by show (s.dur ++ kept s.log picks).length + 0 ≤ _; rw [List.length_append]; have := kept_length s.log picks s.log.length; have := h.1; unfold kept; omega, fun m hm => Nat.le_succ_of_le (h.2 m hm)⟩
theorem le_se {s : Ls} {k : Nat} (h : s.le k) (i : Int) (x : Nat → Nat) : (setL s i x).le (k + 1) := by
  unfold setL
  split
  · refine ⟨?_, fun m hm => Nat.le_succ_of_le (h.2 m hm)⟩
    show (s.dur ++ [_]).length + (oth s.log i).length ≤ _
    rw [List.length_append, List.length_singleton]
    have h1 := h.1
    have h2 : (oth s.log i).length ≤ s.log.length := List.length_filter_le _ _
    omega
  · exact le_mono h (by omega)
theorem le_mk {s : Ls} {k : Nat} (h : s.le k) : (markL s).le (k + 1) := by
  unfold markL
  split
  · exact le_mono h (by omega)
  · refine ⟨Nat.le_succ_of_le h.1, fun m hm => ?_⟩
    rcases List.mem_append.1 hm with hm | hm
    · exact Nat.le_succ_of_le (h.2 m hm)
    · rw [List.mem_singleton] at hm; subst hm; rw [List.length_append]; have := h.1; omega
theorem le_bk {s : Ls} {k : Nat} (h : s.le k) (n : Int) : (backL s n).le (k + 1) := by
  unfold backL
  split
  · exact le_mono h (by omega)
  · refine ⟨?_, fun m hm => Nat.le_succ_of_le (h.2 m hm)⟩
    show (s.marks.getD n.toNat []).length + 0 ≤ _
    rw [List.getD_eq_getElem?_getD]
    cases e : s.marks[n.toNat]? with
    | none => simp
    | some m => have := h.2 m (List.mem_of_getElem? e); show m.length + 0 ≤ _; omega
theorem le_fa {s : Ls} {k : Nat} (h : s.le k) (q : Bool) : (failL s q).le (k + 1) := le_mono (s := s) h (by omega)
/-- Block g holds a member st of the document's, by lists of at most k. -/
def RS (w : World) (g : Nat) (I : Nat → Prop) (k : Nat) (st : St) : Prop := ∃ s, RM w g I s ∧ s.sem = st ∧ s.le k
def RSo (w : World) (g : Nat) (I : Nat → Prop) (k : Nat) (st : St) (w' : World) : Prop := ∃ J, RS w' g J k st ∧ (∀ b, J b → I b ∨ w.heap.size ≤ b) ∧ Turn (fun b => b = g) w w'
theorem RSo.of {w w' : World} {g k : Nat} {I : Nat → Prop} {s : Ls} {st : St} (h : RMo w g I s w') (he : s.sem = st) (hk : s.le k) : RSo w g I k st w' := by
  obtain ⟨J, h1, h2, h3⟩ := h
  exact ⟨J, ⟨s, h1, he, hk⟩, h2, h3⟩
end MbP
end Go.Proofs.Yteglhalninlapaa
set_option maxRecDepth 100000
namespace Go.Proofs.Yteglhalninlapaa
open Go.ChangeShapes Go.WideShapes Go.ChangeAt Go.RowKit
attribute [local go_sem] Gives GivesE
namespace MbP
open MbM
def at' (g : Nat) : Value := .pointer (some ⟨g, 0, none⟩)
/-- rep w g M I k st: in w the pointer to block g is a member st; it turns blocks of M alone, and reads those of M and I; k calls have turned it. -/
abbrev RepT := World → Nat → (Nat → Prop) → (Nat → Prop) → Nat → St → Prop
def outP (rep : RepT) (w : World) (g : Nat) (M I : Nat → Prop) (k : Nat) (st : St) (w' : World) : Prop :=
  ∃ M' I', rep w' g M' I' k st ∧ (∀ b, M' b → M b ∨ w.heap.size ≤ b) ∧ (∀ b, I' b → M b ∨ I b ∨ w.heap.size ≤ b) ∧ Turn M w w'
structure MemC (rep : RepT) : Prop where
  lt : ∀ {w g M I k st}, rep w g M I k st → ∀ b, M b ∨ I b → b < w.heap.size
  frame : ∀ {w w' g M I k st} {T : Nat → Prop}, rep w g M I k st → Turn T w w' → (∀ b, M b ∨ I b → ¬ T b) → rep w' g M I k st
  mono : ∀ {w g M I k k' st}, rep w g M I k st → k ≤ k' → rep w g M I k' st
  own : ∀ {w g M I k st}, rep w g M I k st → ∀ b, M b → ¬ I b
  new : ∀ n : Int, 1 ≤ n → n ≤ 65536 → ∀ w, Calls Try.prog 10 #[.int .i64 n] w fun e w' => ∃ g M I, e = .returned (.tuple #[at' g, .int .i64 0]) ∧ rep w' g M I 0 (made n) ∧ (∀ b, M b ∨ I b → w.heap.size ≤ b) ∧ Below w.heap.size w w'
  bad : ∀ n : Int, ¬ (1 ≤ n ∧ n ≤ 65536) → ∀ w, Calls Try.prog 10 #[.int .i64 n] w fun e w' => e = .returned (.tuple #[.pointer none, .int .i64 2]) ∧ Below w.heap.size w w'
  read : ∀ {w g M I k st}, rep w g M I k st → st.ok → k ≤ 1000 → ∀ i : Int, Calls Try.prog 26 #[at' g, .int .i64 i] w fun e w' => e = .returned (.tuple #[.agg (ar 64 (rdS st i)), .int .i64 (rdE st i)]) ∧ Below w.heap.size w w'
  look : ∀ {w g M I k st}, rep w g M I k st → st.ok → k ≤ 1000 → ∀ i : Int, Calls Try.prog 29 #[at' g, .int .i64 i] w fun e w' => e = .returned (.tuple #[.agg (ar 64 (lkS st i)), .int .i64 (lkE st i)]) ∧ Below w.heap.size w w'
  touched : ∀ {w g M I k st}, rep w g M I k st → Calls Try.prog 22 #[at' g] w fun e w' => e = .returned (.bool st.hurt) ∧ Below w.heap.size w w'
  len : ∀ {w g M I k st}, rep w g M I k st → Calls Try.prog 30 #[at' g] w fun e w' => e = .returned (.int .i64 st.n) ∧ Below w.heap.size w w'
  unflushed : ∀ {w g M I k st}, rep w g M I k st → Calls Try.prog 24 #[at' g] w fun e w' => e = .returned (.int .i64 (st.log.length : Nat)) ∧ Below w.heap.size w w'
  write : ∀ {w g M I k st}, rep w g M I k st → st.ok → k ≤ 1000 → ∀ (i : Int) (x : Nat → Nat), (∀ j, x j < 256) → Calls Try.prog 16 #[at' g, .int .i64 i, .agg (ar 64 x)] w fun e w' => e = .returned (.int .i64 (rdE st i)) ∧ outP rep w g M I (k + 1) (wrT st i x) w'
  flush : ∀ {w g M I k st}, rep w g M I k st → st.ok → k ≤ 1000 → Calls Try.prog 27 #[at' g] w fun e w' => e = .returned (.int .i64 (MbM.flE st)) ∧ outP rep w g M I (k + 1) (flT st) w'
  writeF : ∀ {w g M I k st}, rep w g M I k st → st.ok → k ≤ 1000 → st.fails = true → ∀ (i : Int) (x : Nat → Nat), (∀ j, x j < 256) → Calls Try.prog 16 #[at' g, .int .i64 i, .agg (ar 64 x)] w fun e w' => e = .returned (.int .i64 (rdE st i)) ∧ outP rep w g M I k st w'
  flushF : ∀ {w g M I k st}, rep w g M I k st → st.ok → k ≤ 1000 → st.fails = true → Calls Try.prog 27 #[at' g] w fun e w' => e = .returned (.int .i64 10) ∧ outP rep w g M I k st w'
  crash : ∀ {w g M I k st}, rep w g M I k st → st.ok → k ≤ 1000 → ∀ (P : Option Addr) (picks : List Nat) (pn pc : Nat), Arg w P picks pn pc → (∀ b o, 0 < picks.length → P = some ⟨b, o, none⟩ → ¬ (M b ∨ I b)) → Calls Try.prog 18 #[at' g, .slice P pn pc] w fun e w' => e = .returned (.int .i64 0) ∧ outP rep w g M I (k + 1) (crash st picks) w'
  set : ∀ {w g M I k st}, rep w g M I k st → st.ok → k ≤ 1000 → ∀ (i : Int) (x : Nat → Nat), (∀ j, x j < 256) → Calls Try.prog 21 #[at' g, .int .i64 i, .agg (ar 64 x)] w fun e w' => e = .returned (.int .i64 (lkE st i)) ∧ outP rep w g M I (k + 1) (seT st i x) w'
  mark : ∀ {w g M I k st}, rep w g M I k st → st.ok → k ≤ 1000 → Calls Try.prog 20 #[at' g] w fun e w' => e = .returned (.tuple #[.int .i64 (mkN st), .int .i64 (mkE st)]) ∧ outP rep w g M I (k + 1) (mkT st) w'
  back : ∀ {w g M I k st}, rep w g M I k st → st.ok → k ≤ 1000 → ∀ n : Int, Calls Try.prog 23 #[at' g, .int .i64 n] w fun e w' => e = .returned (.int .i64 (bkE st n)) ∧ outP rep w g M I (k + 1) (bkT st n) w'
  fail : ∀ {w g M I k st}, rep w g M I k st → ∀ q : Bool, Calls Try.prog 25 #[at' g, .bool q] w fun e w' => e = .returned (.int .i64 0) ∧ outP rep w g M I (k + 1) (fail st q) w'
  clean : ∀ {w g M I k st}, rep w g M I k st → Calls Try.prog 28 #[at' g] w fun e w' => e = .returned (.tuple #[]) ∧ outP rep w g M I (k + 1) (clean st) w'
  copy : ∀ {w g M I k st}, rep w g M I k st → st.ok → k ≤ 1000 → Calls Try.prog 14 #[at' g] w fun e w' => ∃ g2 M2 I2, e = .returned (at' g2) ∧ rep w' g2 M2 I2 k st ∧ (∀ b, M2 b → w.heap.size ≤ b) ∧ (∀ b, I2 b → I b ∨ w.heap.size ≤ b) ∧ Below w.heap.size w w'
/-- A member of the program's beside one of the document's; all that both lay lies from block B on. -/
structure J2 (rep : RepT) (B : Nat) (w : World) (m : Nat) (M I : Nat → Prop) (k : Nat) (st : St) (g : Nat) (L : Nat → Prop) (k2 : Nat) (st2 : St) : Prop where
  prog : rep w m M I k st
  ref : RS w g L k2 st2
  ok : st.ok
  apart : ∀ b, M b ∨ I b → ¬ (b = g ∨ L b)
  low : ∀ b, M b ∨ I b ∨ L b ∨ b = g → B ≤ b
  base : B ≤ w.heap.size
section
variable {rep : RepT} {B : Nat} {w w' : World} {m : Nat} {M I : Nat → Prop} {k : Nat} {st st' : St} {g : Nat} {L : Nat → Prop} {k2 : Nat} {st2 : St}
theorem RS.turn {T : Nat → Prop} (h : RS w g L k st) (ht : Turn T w w') (hg : ¬ T g) (hL : ∀ b, L b → ¬ T b) : RS w' g L k st := by
  obtain ⟨s, ⟨A1, c1, A2, c2, A3, c3, hr⟩, h2⟩ := h
  exact ⟨s, ⟨A1, c1, A2, c2, A3, c3, hr.turn ht hg hL⟩, h2⟩
theorem RS.lt (h : RS w g L k st) : g < w.heap.size ∧ ∀ b, L b → b < w.heap.size := by
  obtain ⟨s, ⟨A1, c1, A2, c2, A3, c3, hr⟩, h2⟩ := h
  exact ⟨hr.blk.lt, hr.lt⟩
theorem RS.out (h : RS w g L k st) : ¬ L g := by
  obtain ⟨s, ⟨A1, c1, A2, c2, A3, c3, hr⟩, h2⟩ := h
  exact hr.out
theorem RS.mono {k' : Nat} (h : RS w g L k st) (hk : k ≤ k') : RS w g L k' st := by
  obtain ⟨s, h1, h2, h3⟩ := h
  exact ⟨s, h1, h2, le_mono h3 hk⟩
theorem J2.below (hC : MemC rep) (h : J2 rep B w m M I k st g L k2 st2) (hb : Below w.heap.size w w') : J2 rep B w' m M I k st g L k2 st2 where
  prog := hC.frame h.prog (Turn.of_below hb) fun b hb' => by have := hC.lt h.prog b hb'; omega
  ref := h.ref.turn (Turn.of_below hb) (by have := h.ref.lt.1; omega) fun b hl => by have := h.ref.lt.2 b hl; omega
  ok := h.ok
  apart := h.apart
  low := h.low
  base := Nat.le_trans h.base hb.size
/-- What may be turned, and what may come to what is laid. -/
def Grew (w : World) (M I L : Nat → Prop) (g : Nat) (w' : World) (M' I' L' : Nat → Prop) : Prop :=
  (∀ b, M' b → M b ∨ w.heap.size ≤ b) ∧ (∀ b, I' b → M b ∨ I b ∨ w.heap.size ≤ b) ∧ (∀ b, L' b → L b ∨ w.heap.size ≤ b) ∧ Turn (fun b => M b ∨ b = g) w w'
theorem Grew.refl (w : World) (M I L : Nat → Prop) (g : Nat) : Grew w M I L g w M I L := ⟨fun _ h => .inl h, fun _ h => .inr (.inl h), fun _ h => .inl h, Turn.refl _ _⟩
theorem Grew.trans {w2 : World} {M' I' L' M2 I2 L2 : Nat → Prop} (h : Grew w M I L g w' M' I' L') (h2 : Grew w' M' I' L' g w2 M2 I2 L2) : Grew w M I L g w2 M2 I2 L2 := by
  have hs := h.2.2.2.size
  refine ⟨fun b hb => ?_, fun b hb => ?_, fun b hb => ?_, h.2.2.2.trans h2.2.2.2 fun b hb => ?_⟩
  · rcases h2.1 b hb with e | e
    · exact h.1 b e
    · exact .inr (Nat.le_trans hs e)
  · rcases h2.2.1 b hb with e | e | e
    · rcases h.1 b e with e | e
      · exact .inl e
      · exact .inr (.inr e)
    · exact h.2.1 b e
    · exact .inr (.inr (Nat.le_trans hs e))
  · rcases h2.2.2.1 b hb with e | e
    · exact h.2.2.1 b e
    · exact .inr (Nat.le_trans hs e)
  · rcases hb with e | e
    · exact (h.1 b e).imp .inl id
    · exact .inl (.inr e)
theorem Grew.below {hb : Below w.heap.size w w'} : Grew w M I L g w' M I L := ⟨fun _ h => .inl h, fun _ h => .inr (.inl h), fun _ h => .inl h, Turn.of_new hb⟩
theorem J2.byProg (hC : MemC rep) (h : J2 rep B w m M I k st g L k2 st2) {k' : Nat} (ho : outP rep w m M I k' st' w') (hok : st'.ok) : ∃ M' I', J2 rep B w' m M' I' k' st' g L k2 st2 ∧ Grew w M I L g w' M' I' L := by
  obtain ⟨M', I', h1, h2, h3, h4⟩ := ho
  have hlt := h.ref.lt
  refine ⟨M', I', ⟨h1, h.ref.turn h4 (fun e => h.apart g (.inl e) (.inl rfl)) fun b hl e => h.apart b (.inl e) (.inr hl), hok, fun b hb hgl => ?_, fun b hb => ?_, Nat.le_trans h.base h4.size⟩, h2, h3, fun _ e => .inl e, h4.mono fun _ e => .inl e⟩
  · have hbl : b < w.heap.size := by
      rcases hgl with e | e
      · exact e ▸ hlt.1
      · exact hlt.2 b e
    rcases hb with hb | hb
    · rcases h2 b hb with e | e
      · exact h.apart b (.inl e) hgl
      · omega
    · rcases h3 b hb with e | e | e
      · exact h.apart b (.inl e) hgl
      · exact h.apart b (.inr e) hgl
      · omega
  · rcases hb with hb | hb | hb
    · rcases h2 b hb with e | e
      · exact h.low b (.inl e)
      · exact Nat.le_trans h.base e
    · rcases h3 b hb with e | e | e
      · exact h.low b (.inl e)
      · exact h.low b (.inr (.inl e))
      · exact Nat.le_trans h.base e
    · exact h.low b (.inr (.inr hb))
theorem J2.byRef (hC : MemC rep) (h : J2 rep B w m M I k st g L k2 st2) {k' : Nat} (ho : RSo w g L k' st' w') : ∃ L', J2 rep B w' m M I k st g L' k' st' ∧ Grew w M I L g w' M I L' := by
  obtain ⟨L', h1, h2, h3⟩ := ho
  refine ⟨L', ⟨hC.frame h.prog h3 fun b hb e => h.apart b hb (.inl e), h1, h.ok, fun b hb hgl => ?_, fun b hb => ?_, Nat.le_trans h.base h3.size⟩, fun _ e => .inl e, fun _ e => .inr (.inl e), h2, h3.mono fun _ e => .inr e⟩
  · rcases hgl with e | e
    · exact h.apart b hb (.inl e)
    · rcases h2 b e with e | e
      · exact h.apart b hb (.inr e)
      · have := hC.lt h.prog b hb; omega
  · rcases hb with hb | hb | hb | hb
    · exact h.low b (.inl hb)
    · exact h.low b (.inr (.inl hb))
    · rcases h2 b hb with e | e
      · exact h.low b (.inr (.inr (.inl e)))
      · exact Nat.le_trans h.base e
    · exact h.low b (.inr (.inr (.inr hb)))
theorem J2.mono {k' k2' : Nat} (hC : MemC rep) (h : J2 rep B w m M I k st g L k2 st2) (hk : k ≤ k') (hk2 : k2 ≤ k2') : J2 rep B w m M I k' st g L k2' st2 := ⟨hC.mono h.prog hk, h.ref.mono hk2, h.ok, h.apart, h.low, h.base⟩
theorem Grew.low {M' I' L' : Nat → Prop} (h : J2 rep B w m M I k st g L k2 st2) (hg : Grew w M I L g w' M' I' L') : Below B w w' := hg.2.2.2.below h.base fun b e => by
  rcases e with e | e
  · exact h.low b (.inl e)
  · exact h.low b (.inr (.inr (.inr e)))
end
end MbP
end Go.Proofs.Yteglhalninlapaa
set_option maxRecDepth 100000
namespace Go.Proofs.Yteglhalninlapaa
open Go.ChangeShapes Go.WideShapes Go.ChangeAt Go.RowKit
namespace MbP
open MbM
section
variable {w w' : World} {g : Nat} {L : Nat → Prop} {k : Nat} {st : St}
theorem rs_read (h : RS w g L k st) (i : Int) : Calls Try.prog 40 #[at' g, .int .i64 i] w fun e w' => e = .returned (.tuple #[.agg (ar 64 (rdS st i)), .int .i64 (rdE st i)]) ∧ Below w.heap.size w w' := by
  obtain ⟨s, h1, rfl, h3⟩ := h
  have := read_any g L s i w h1
  rw [sem_rdS, sem_rdE] at this
  exact this
theorem rs_look (h : RS w g L k st) (i : Int) : Calls Try.prog 41 #[at' g, .int .i64 i] w fun e w' => e = .returned (.tuple #[.agg (ar 64 (lkS st i)), .int .i64 (lkE st i)]) ∧ Below w.heap.size w w' := by
  obtain ⟨s, h1, rfl, h3⟩ := h
  have := look_any g L s i w h1
  rw [sem_lkS, sem_lkE] at this
  exact this
theorem rs_write (h : RS w g L k st) (hk : k ≤ 1000) (i : Int) (x : Nat → Nat) : Calls Try.prog 33 #[at' g, .int .i64 i, .agg (ar 64 x)] w fun e w' => e = .returned (.int .i64 (rdE st i)) ∧ RSo w g L (k + 1) (wrT st i x) w' := by
  obtain ⟨s, h1, rfl, h3⟩ := h
  exact (write_any g L s i x (by have := h3.1; omega) w h1).mono fun e w' ⟨e1, e2⟩ => ⟨e1, RSo.of e2 (sem_wr s i x) (le_wr h3 i x)⟩
theorem rs_flush (h : RS w g L k st) (hk : k ≤ 1000) : Calls Try.prog 34 #[at' g] w fun e w' => e = .returned (.int .i64 (MbM.flE st)) ∧ RSo w g L (k + 1) (flT st) w' := by
  obtain ⟨s, h1, rfl, h3⟩ := h
  exact (flush_any g L s (by have := h3.1; omega) w h1).mono fun e w' ⟨e1, e2⟩ => ⟨e1, RSo.of e2 (sem_fl s) (le_fl h3)⟩
theorem rs_crash (h : RS w g L k st) (hk : k ≤ 1000) (P : Option Addr) (picks : List Nat) (pn pc : Nat) (hp : Arg w P picks pn pc) (hne : ∀ b o, 0 < picks.length → P = some ⟨b, o, none⟩ → b ≠ g) : Calls Try.prog 35 #[at' g, .slice P pn pc] w fun e w' => e = .returned (.tuple #[]) ∧ RSo w g L (k + 1) (crash st picks) w' := by
  obtain ⟨s, h1, rfl, h3⟩ := h
  exact (crash_any g L s (by have := h3.1; omega) P picks pn pc w h1 hp hne).mono fun e w' ⟨e1, e2⟩ => ⟨e1, RSo.of e2 (sem_cr s picks) (le_cr h3 picks)⟩
theorem rs_set (h : RS w g L k st) (hk : k ≤ 1000) (i : Int) (x : Nat → Nat) : Calls Try.prog 36 #[at' g, .int .i64 i, .agg (ar 64 x)] w fun e w' => e = .returned (.int .i64 (lkE st i)) ∧ RSo w g L (k + 1) (seT st i x) w' := by
  obtain ⟨s, h1, rfl, h3⟩ := h
  exact (set_any g L s i x (by have := h3.1; omega) w h1).mono fun e w' ⟨e1, e2⟩ => ⟨e1, RSo.of e2 (sem_se s i x) (le_se h3 i x)⟩
theorem rs_mark (h : RS w g L k st) (hk : k ≤ 1000) : Calls Try.prog 37 #[at' g] w fun e w' => e = .returned (.tuple #[.int .i64 (mkN st), .int .i64 (mkE st)]) ∧ RSo w g L (k + 1) (mkT st) w' := by
  obtain ⟨s, h1, rfl, h3⟩ := h
  rw [← sem_mkN, ← sem_mkE]
  exact (mark_any g L s (by have := h3.1; omega) w h1).mono fun e w' ⟨e1, e2⟩ => ⟨e1, RSo.of e2 (sem_mk s) (le_mk h3)⟩
theorem rs_back (h : RS w g L k st) (n : Int) : Calls Try.prog 38 #[at' g, .int .i64 n] w fun e w' => e = .returned (.int .i64 (bkE st n)) ∧ RSo w g L (k + 1) (bkT st n) w' := by
  obtain ⟨s, h1, rfl, h3⟩ := h
  rw [← sem_bkE]
  exact (back_any g L s n w h1).mono fun e w' ⟨e1, e2⟩ => ⟨e1, RSo.of e2 (sem_bk s n) (le_bk h3 n)⟩
theorem rs_fail (h : RS w g L k st) (q : Bool) : Calls Try.prog 39 #[at' g, .bool q] w fun e w' => e = .returned (.tuple #[]) ∧ RSo w g L (k + 1) (fail st q) w' := by
  obtain ⟨s, h1, rfl, h3⟩ := h
  exact (fail_any g L s q w h1).mono fun e w' ⟨e1, e2⟩ => ⟨e1, RSo.of e2 (sem_fa s q) (le_fa h3 q)⟩
theorem rs_made (n : Int) (w : World) : Calls Try.prog 11 #[.int .i64 n] w fun e w' => e = .returned (at' w.heap.size) ∧ RS w' w.heap.size (fun _ => False) 0 (made n) ∧ Below w.heap.size w w' :=
  (made_any n w).mono fun e w' ⟨e1, e2, e3⟩ => ⟨e1, ⟨Ls.made n, e2, sem_made n, ⟨Nat.le_refl _, fun m hm => (by cases hm)⟩⟩, e3⟩
theorem rs_copy (h : RS w g L k st) : Calls Try.prog 15 #[at' g] w fun e w' => e = .returned (at' w.heap.size) ∧ RS w' w.heap.size L k st ∧ RS w' g L k st ∧ Below w.heap.size w w' := by
  obtain ⟨s, h1, h2, h3⟩ := h
  exact (copy_any g L s w h1).mono fun e w' ⟨e1, e2, e3, e4⟩ => ⟨e1, ⟨s, e2, h2, h3⟩, ⟨s, e3, h2, h3⟩, e4⟩
/-- 'r.Hurt = false'. -/
theorem RS.clean (h : RS w g L k st) : RS (w.setCell ⟨g, 5, none⟩ (.bool false)) g L (k + 1) (MbM.clean st) := by
  obtain ⟨s, ⟨A1, c1, A2, c2, A3, c3, h1⟩, rfl, h3⟩ := h
  exact ⟨{ s with hurt := false }, ⟨A1, c1, A2, c2, A3, c3, h1.setHurt false⟩, rfl, le_mono (s := s) h3 (by omega)⟩
theorem RS.fields (h : RS w g L k st) : w.cell? ⟨g, 0, none⟩ = some (.int .i64 st.n) ∧ (∃ A c, w.cell? ⟨g, 2, none⟩ = some (.slice A st.log.length c)) ∧ w.cell? ⟨g, 5, none⟩ = some (.bool st.hurt) ∧ (∃ u, w.cell? ⟨g, 1, none⟩ = some u) := by
  obtain ⟨s, ⟨A1, c1, A2, c2, A3, c3, h1⟩, rfl, h3⟩ := h
  exact ⟨h1.blk.cell 0, ⟨A2, c2, h1.blk.cell 2⟩, h1.blk.cell 5, ⟨_, h1.blk.cell 1⟩⟩
theorem RS.fr5 (h : RS w g L k st) : w.frozen? ⟨g, 5, none⟩ = false := by
  obtain ⟨s, ⟨A1, c1, A2, c2, A3, c3, h1⟩, rfl, h3⟩ := h
  exact h1.blk.frozen 5
theorem rdS_lt {st : St} (h : st.ok) (i : Int) : ∀ j, rdS st i j < 256 := fun j => by
  unfold rdS
  split
  · split
    · exact zero_lt j
    · exact seen_lt h i j
  · exact zero_lt j
theorem lkS_lt {st : St} (h : st.ok) (i : Int) : ∀ j, lkS st i j < 256 := fun j => by
  unfold lkS
  split
  · exact h.1 i j
  · exact zero_lt j
end
end MbP
end Go.Proofs.Yteglhalninlapaa
set_option maxRecDepth 100000
namespace Go.Proofs.Yteglhalninlapaa
open Go.ChangeShapes Go.WideShapes Go.ChangeAt Go.RowKit
attribute [local go_sem] Gives
namespace MbP
open MbM
theorem uSe : Try.prog.underlying 32 = some (.array 64 5) := Try.underlying32
theorem eqg_se : Try.prog.eqGuardType Try.prog.depth 32 = false := by kernel_rfl
/-- What stands while the looks are taken. -/
structure LkC (rep : RepT) (B : Nat) (w0 : World) (m : Nat) (M I : Nat → Prop) (k : Nat) (st : St) (g : Nat) (L : Nat → Prop) (k2 : Nat) (a b c d : Nat) (X Y : Nat → Nat) (A : Option Addr) (cA : Nat) (w : World) : Prop where
  j : J2 rep B w m M I k st g L k2 st
  a : Blk w a 32 (ar 64 X)
  b : Blk w b 32 (ar 64 X)
  c : Blk w c 32 (ar 64 Y)
  d : Blk w d 32 (ar 64 Y)
  lg : w.cell? ⟨g, 2, none⟩ = some (.slice A st.log.length cA)
  new : Below w0.heap.size w0 w
theorem LkC.below {rep : RepT} {B : Nat} {w0 w w' : World} {m k g k2 a b c d : Nat} {M I L : Nat → Prop} {st : St} {X Y : Nat → Nat} {A : Option Addr} {cA : Nat} (hC : MemC rep) (h : LkC rep B w0 m M I k st g L k2 a b c d X Y A cA w) (hb : Below w.heap.size w w') : LkC rep B w0 m M I k st g L k2 a b c d X Y A cA w' :=
  ⟨h.j.below hC hb, h.a.below hb h.a.lt, h.b.below hb h.b.lt, h.c.below hb h.c.lt, h.d.below hb h.d.lt, (hb.cell h.j.ref.lt.1).trans h.lg, h.new.trans (hb.mono h.new.size)⟩
set_option maxHeartbeats 800000 in
set_option maxRecDepth 100000 in
theorem looks_any {rep : RepT} (hC : MemC rep) (B m k g k2 : Nat) (M I L : Nat → Prop) (st : St) (i : Int) (hk : k ≤ 1000) (w : World) (h : J2 rep B w m M I k st g L k2 st) :
    Calls Try.prog 13 #[at' m, at' g, .int .i64 i] w fun e w' => e = .returned (.bool true) ∧ Below w.heap.size w w' := by
  have H := hid h
  have HK := hid hk
  obtain ⟨X, hX⟩ : ∃ X, X = rdS st i := ⟨_, rfl⟩
  obtain ⟨Y, hY⟩ : ∃ Y, Y = lkS st i := ⟨_, rfl⟩
  obtain ⟨x, hx⟩ : ∃ x, x = rdE st i := ⟨_, rfl⟩
  obtain ⟨y, hy⟩ : ∃ y, y = lkE st i := ⟨_, rfl⟩
  have HX := hid hX
  have HY := hid hY
  have Hx := hid hx
  have Hy := hid hy
  clear h hk hX hY hx hy
  unfold at'
  go_enter Try.func13, Try.ntmps13
  go_wp2_with fail
  refine (hC.read H.out.prog H.out.ok HK.out i).mono ?_
  rintro e w1 ⟨rfl, h1⟩
  rw [← HX.out, ← Hx.out]
  have J1 := hid (H.out.below hC h1)
  have B1 := hid h1
  clear H h1
  go_upto_region 2 with (first | (with_reducible apply alA tSe) | ((with_reducible apply stA tSe); rfl; rfl; exact Blk.new _ _ _))
  generalize hw2 : World.setRow _ _ _ = w2
  obtain ⟨ga, hga⟩ : ∃ n, n = w1.heap.size := ⟨_, rfl⟩
  have a2 := hid (show Blk w2 ga 32 (ar 64 X) by rw [← hw2, hga]; exact (Blk.new w1 _ _).setRow_same _)
  have h2 : Below w1.heap.size w1 w2 := by rw [← hw2]; exact below_setRow ((Below.refl _ _).alloc (Nat.le_refl _) _) (Nat.le_refl _) _
  have J2' := hid (J1.out.below hC h2)
  have B2 := hid (B1.out.trans (h2.mono B1.out.size))
  rw [← hga]
  clear hw2 J1 B1 h2 hga
  go_wp2_with fail
  refine (rs_read J2'.out.ref i).mono ?_
  rintro e w3 ⟨rfl, h3⟩
  rw [← HX.out, ← Hx.out]
  have J3 := hid (J2'.out.below hC h3)
  have B3 := hid (B2.out.trans (h3.mono B2.out.size))
  have a3 := hid (a2.out.below h3 a2.out.lt)
  clear J2' B2 a2 h3
  go_upto_region 3 with (first | (with_reducible apply alA tSe) | ((with_reducible apply stA tSe); rfl; rfl; exact Blk.new _ _ _))
  generalize hw4 : World.setRow _ _ _ = w4
  obtain ⟨gb, hgb⟩ : ∃ n, n = w3.heap.size := ⟨_, rfl⟩
  have b4 := hid (show Blk w4 gb 32 (ar 64 X) by rw [← hw4, hgb]; exact (Blk.new w3 _ _).setRow_same _)
  have h4 : Below w3.heap.size w3 w4 := by rw [← hw4]; exact below_setRow ((Below.refl _ _).alloc (Nat.le_refl _) _) (Nat.le_refl _) _
  have J4 := hid (J3.out.below hC h4)
  have B4 := hid (B3.out.trans (h4.mono B3.out.size))
  have a4 := hid (a3.out.below h4 a3.out.lt)
  rw [← hgb]
  clear hw4 J3 B3 a3 h4 hgb
  go_wp2_with fail
  refine (hC.look J4.out.prog J4.out.ok HK.out i).mono ?_
  rintro e w5 ⟨rfl, h5⟩
  rw [← HY.out, ← Hy.out]
  have J5 := hid (J4.out.below hC h5)
  have B5 := hid (B4.out.trans (h5.mono B4.out.size))
  have a5 := hid (a4.out.below h5 a4.out.lt)
  have b5 := hid (b4.out.below h5 b4.out.lt)
  clear J4 B4 a4 b4 h5
  go_upto_region 4 with (first | (with_reducible apply alA tSe) | ((with_reducible apply stA tSe); rfl; rfl; exact Blk.new _ _ _))
  generalize hw6 : World.setRow _ _ _ = w6
  obtain ⟨gc, hgc⟩ : ∃ n, n = w5.heap.size := ⟨_, rfl⟩
  have c6 := hid (show Blk w6 gc 32 (ar 64 Y) by rw [← hw6, hgc]; exact (Blk.new w5 _ _).setRow_same _)
  have h6 : Below w5.heap.size w5 w6 := by rw [← hw6]; exact below_setRow ((Below.refl _ _).alloc (Nat.le_refl _) _) (Nat.le_refl _) _
  have J6 := hid (J5.out.below hC h6)
  have B6 := hid (B5.out.trans (h6.mono B5.out.size))
  have a6 := hid (a5.out.below h6 a5.out.lt)
  have b6 := hid (b5.out.below h6 b5.out.lt)
  rw [← hgc]
  clear hw6 J5 B5 a5 b5 h6 hgc
  go_wp2_with fail
  refine (rs_look J6.out.ref i).mono ?_
  rintro e w7 ⟨rfl, h7⟩
  rw [← HY.out, ← Hy.out]
  have J7 := hid (J6.out.below hC h7)
  have B7 := hid (B6.out.trans (h7.mono B6.out.size))
  have a7 := hid (a6.out.below h7 a6.out.lt)
  have b7 := hid (b6.out.below h7 b6.out.lt)
  have c7 := hid (c6.out.below h7 c6.out.lt)
  clear J6 B6 a6 b6 c6 h7
  go_upto_region 5 with (first | (with_reducible apply alA tSe) | ((with_reducible apply stA tSe); rfl; rfl; exact Blk.new _ _ _))
  generalize hw8 : World.setRow _ _ _ = w8
  obtain ⟨gd, hgd⟩ : ∃ n, n = w7.heap.size := ⟨_, rfl⟩
  have h8 : Below w7.heap.size w7 w8 := by rw [← hw8]; exact below_setRow ((Below.refl _ _).alloc (Nat.le_refl _) _) (Nat.le_refl _) _
  have J8 := J7.out.below hC h8
  obtain ⟨A, cA, hlg⟩ := J8.ref.fields.2.1
  have K8 := hid (show LkC rep B w m M I k st g L k2 ga gb gc gd X Y A cA w8 from ⟨J8, a7.out.below h8 a7.out.lt, b7.out.below h8 b7.out.lt, c7.out.below h8 c7.out.lt, by rw [← hw8, hgd]; exact (Blk.new w7 _ _).setRow_same _, hlg, B7.out.trans (h8.mono B7.out.size)⟩)
  rw [← hgd]
  clear hw8 J8 hlg J7 B7 a7 b7 c7 h8 hgd HX HY Hx Hy
  refine wp_region_tail (C := LkC rep B w m M I k st g L k2 ga gb gc gd X Y A cA) 46 (by kernel_rfl) (by kernel_rfl) (by kernel_rfl) (K8.out.below hC (Below.refl _ _).drew) ?_
  apply kldA tSe
  · rfl
  · rfl
  · exact fun w' hw' => hw'.a.head
  simp only [Act.put, List.setIfInBounds_toArray, List.set_cons_succ, List.set_cons_zero]
  apply kldA tSe
  · rfl
  · rfl
  · exact fun w' hw' => hw'.b.head
  simp only [Act.put, List.setIfInBounds_toArray, List.set_cons_succ, List.set_cons_zero]
  apply keqU true uSe eqg_se
  · rfl
  · rfl
  · rfl
  · exact eqA_yes fun _ _ => rfl
  simp only [Act.put, List.setIfInBounds_toArray, List.set_cons_succ, List.set_cons_zero]
  apply wpK_val
  · rfl
  · intro w' hw'
    go_simp
    first | exact rfl | exact ⟨rfl, hw'⟩
  simp only [Act.put, List.setIfInBounds_toArray, List.set_cons_succ, List.set_cons_zero]
  apply wpK_val
  · rfl
  · intro w' hw'
    go_simp
    first | exact rfl | exact ⟨rfl, hw'⟩
  simp only [Act.put, List.setIfInBounds_toArray, List.set_cons_succ, List.set_cons_zero]
  apply wpK_val
  · rfl
  · intro w' hw'
    go_simp
    first | exact rfl | exact ⟨rfl, hw'⟩
  simp only [Act.put, List.setIfInBounds_toArray, List.set_cons_succ, List.set_cons_zero]
  apply wpK_val
  · rfl
  · intro w' hw'
    go_simp
    first | exact rfl | exact ⟨rfl, hw'⟩
  simp only [Act.put, List.setIfInBounds_toArray, List.set_cons_succ, List.set_cons_zero]
  apply wpK_val
  · rfl
  · intro w' hw'
    go_simp
    first | exact rfl | exact ⟨rfl, hw'⟩
  simp only [Act.put, List.setIfInBounds_toArray, List.set_cons_succ, List.set_cons_zero]
  apply wpK_val
  · rfl
  · intro w' hw'
    go_simp
    first | exact rfl | exact ⟨rfl, hw'⟩
  simp only [Act.put, List.setIfInBounds_toArray, List.set_cons_succ, List.set_cons_zero]
  apply kldA tSe
  · rfl
  · rfl
  · exact fun w' hw' => hw'.c.head
  simp only [Act.put, List.setIfInBounds_toArray, List.set_cons_succ, List.set_cons_zero]
  apply kldA tSe
  · rfl
  · rfl
  · exact fun w' hw' => hw'.d.head
  simp only [Act.put, List.setIfInBounds_toArray, List.set_cons_succ, List.set_cons_zero]
  apply keqU true uSe eqg_se
  · rfl
  · rfl
  · rfl
  · exact eqA_yes fun _ _ => rfl
  simp only [Act.put, List.setIfInBounds_toArray, List.set_cons_succ, List.set_cons_zero]
  apply wpK_val
  · rfl
  · intro w' hw'
    go_simp
    first | exact rfl | exact ⟨rfl, hw'⟩
  simp only [Act.put, List.setIfInBounds_toArray, List.set_cons_succ, List.set_cons_zero]
  apply wpK_val
  · rfl
  · intro w' hw'
    go_simp
    first | exact rfl | exact ⟨rfl, hw'⟩
  simp only [Act.put, List.setIfInBounds_toArray, List.set_cons_succ, List.set_cons_zero]
  apply wpK_val
  · rfl
  · intro w' hw'
    go_simp
    first | exact rfl | exact ⟨rfl, hw'⟩
  simp only [Act.put, List.setIfInBounds_toArray, List.set_cons_succ, List.set_cons_zero]
  apply wpK_val
  · rfl
  · intro w' hw'
    go_simp
    first | exact rfl | exact ⟨rfl, hw'⟩
  simp only [Act.put, List.setIfInBounds_toArray, List.set_cons_succ, List.set_cons_zero]
  apply wpK_val
  · rfl
  · intro w' hw'
    go_simp
    first | exact rfl | exact ⟨rfl, hw'⟩
  simp only [Act.put, List.setIfInBounds_toArray, List.set_cons_succ, List.set_cons_zero]
  apply wpK_val
  · rfl
  · intro w' hw'
    go_simp
    first | exact rfl | exact ⟨rfl, hw'⟩
  simp only [Act.put, List.setIfInBounds_toArray, List.set_cons_succ, List.set_cons_zero]
  apply wpK_val
  · rfl
  · intro w' hw'
    go_simp
    first | exact rfl | exact ⟨rfl, hw'⟩
  simp only [Act.put, List.setIfInBounds_toArray, List.set_cons_succ, List.set_cons_zero]
  apply wpK_val
  · rfl
  · intro w' hw'
    go_simp
    first | exact rfl | exact ⟨rfl, hw'⟩
  simp only [Act.put, List.setIfInBounds_toArray, List.set_cons_succ, List.set_cons_zero]
  apply wpK_val
  · rfl
  · intro w' hw'
    go_simp
    exact (hC.touched hw'.j.prog).mono fun e w2 ⟨h1, h2⟩ => ⟨h1, hw'.below hC h2⟩
  simp only [Act.put, List.setIfInBounds_toArray, List.set_cons_succ, List.set_cons_zero]
  apply wpK_val
  · rfl
  · intro w' hw'
    go_simp
    first | exact rfl | exact ⟨rfl, hw'⟩
  simp only [Act.put, List.setIfInBounds_toArray, List.set_cons_succ, List.set_cons_zero]
  apply wpK_val
  · rfl
  · intro w' hw'
    go_simp
    first | exact rfl | exact ⟨rfl, hw'⟩
  simp only [Act.put, List.setIfInBounds_toArray, List.set_cons_succ, List.set_cons_zero]
  apply wpK_val
  · rfl
  · intro w' hw'
    go_simp
    first | exact rfl | exact ⟨rfl, hw'⟩
  simp only [Act.put, List.setIfInBounds_toArray, List.set_cons_succ, List.set_cons_zero]
  apply wpK_val
  · rfl
  · intro w' hw'
    have hcell := hw'.j.ref.fields.2.2.1
    go_simp
    first | exact rfl | exact ⟨rfl, hw'⟩
  simp only [Act.put, List.setIfInBounds_toArray, List.set_cons_succ, List.set_cons_zero]
  apply wpK_val
  · rfl
  · intro w' hw'
    go_simp
    first | exact rfl | exact ⟨rfl, hw'⟩
  simp only [Act.put, List.setIfInBounds_toArray, List.set_cons_succ, List.set_cons_zero]
  apply wpK_val
  · rfl
  · intro w' hw'
    go_simp
    first | exact rfl | exact ⟨rfl, hw'⟩
  simp only [Act.put, List.setIfInBounds_toArray, List.set_cons_succ, List.set_cons_zero]
  apply wpK_val
  · rfl
  · intro w' hw'
    go_simp
    first | exact rfl | exact ⟨rfl, hw'⟩
  simp only [Act.put, List.setIfInBounds_toArray, List.set_cons_succ, List.set_cons_zero]
  apply wpK_val
  · rfl
  · intro w' hw'
    go_simp
    first | exact rfl | exact ⟨rfl, hw'⟩
  simp only [Act.put, List.setIfInBounds_toArray, List.set_cons_succ, List.set_cons_zero]
  apply wpK_val
  · rfl
  · intro w' hw'
    go_simp
    exact (hC.unflushed hw'.j.prog).mono fun e w2 ⟨h1, h2⟩ => ⟨h1, hw'.below hC h2⟩
  simp only [Act.put, List.setIfInBounds_toArray, List.set_cons_succ, List.set_cons_zero]
  apply wpK_val
  · rfl
  · intro w' hw'
    go_simp
    first | exact rfl | exact ⟨rfl, hw'⟩
  simp only [Act.put, List.setIfInBounds_toArray, List.set_cons_succ, List.set_cons_zero]
  apply wpK_val
  · rfl
  · intro w' hw'
    go_simp
    first | exact rfl | exact ⟨rfl, hw'⟩
  simp only [Act.put, List.setIfInBounds_toArray, List.set_cons_succ, List.set_cons_zero]
  apply wpK_val
  · rfl
  · intro w' hw'
    go_simp
    first | exact rfl | exact ⟨rfl, hw'⟩
  simp only [Act.put, List.setIfInBounds_toArray, List.set_cons_succ, List.set_cons_zero]
  apply wpK_val
  · rfl
  · intro w' hw'
    have hcell := hw'.lg
    go_simp
    first | exact rfl | exact ⟨rfl, hw'⟩
  simp only [Act.put, List.setIfInBounds_toArray, List.set_cons_succ, List.set_cons_zero]
  apply wpK_val
  · rfl
  · intro w' hw'
    go_simp
    first | exact rfl | exact ⟨rfl, hw'⟩
  simp only [Act.put, List.setIfInBounds_toArray, List.set_cons_succ, List.set_cons_zero]
  apply wpK_val
  · rfl
  · intro w' hw'
    go_simp
    first | exact rfl | exact ⟨rfl, hw'⟩
  simp only [Act.put, List.setIfInBounds_toArray, List.set_cons_succ, List.set_cons_zero]
  apply wpK_val
  · rfl
  · intro w' hw'
    go_simp
    first | exact rfl | exact ⟨rfl, hw'⟩
  simp only [Act.put, List.setIfInBounds_toArray, List.set_cons_succ, List.set_cons_zero]
  apply wpK_val
  · rfl
  · intro w' hw'
    go_simp
    first | exact rfl | exact ⟨rfl, hw'⟩
  simp only [Act.put, List.setIfInBounds_toArray, List.set_cons_succ, List.set_cons_zero]
  apply wpK_val
  · rfl
  · intro w' hw'
    go_simp
    first | exact rfl | exact ⟨rfl, hw'⟩
  simp only [Act.put, List.setIfInBounds_toArray, List.set_cons_succ, List.set_cons_zero]
  apply wpK_val
  · rfl
  · intro w' hw'
    go_simp
    exact (hC.len hw'.j.prog).mono fun e w2 ⟨h1, h2⟩ => ⟨h1, hw'.below hC h2⟩
  simp only [Act.put, List.setIfInBounds_toArray, List.set_cons_succ, List.set_cons_zero]
  apply wpK_val
  · rfl
  · intro w' hw'
    go_simp
    first | exact rfl | exact ⟨rfl, hw'⟩
  simp only [Act.put, List.setIfInBounds_toArray, List.set_cons_succ, List.set_cons_zero]
  apply wpK_val
  · rfl
  · intro w' hw'
    go_simp
    first | exact rfl | exact ⟨rfl, hw'⟩
  simp only [Act.put, List.setIfInBounds_toArray, List.set_cons_succ, List.set_cons_zero]
  apply wpK_val
  · rfl
  · intro w' hw'
    go_simp
    first | exact rfl | exact ⟨rfl, hw'⟩
  simp only [Act.put, List.setIfInBounds_toArray, List.set_cons_succ, List.set_cons_zero]
  apply wpK_val
  · rfl
  · intro w' hw'
    have hcell := hw'.j.ref.fields.1
    go_simp
    first | exact rfl | exact ⟨rfl, hw'⟩
  simp only [Act.put, List.setIfInBounds_toArray, List.set_cons_succ, List.set_cons_zero]
  apply wpK_val
  · rfl
  · intro w' hw'
    go_simp
    first | exact rfl | exact ⟨rfl, hw'⟩
  simp only [Act.put, List.setIfInBounds_toArray, List.set_cons_succ, List.set_cons_zero]
  apply wpK_val
  · rfl
  · intro w' hw'
    go_simp
    first | exact rfl | exact ⟨rfl, hw'⟩
  simp only [Act.put, List.setIfInBounds_toArray, List.set_cons_succ, List.set_cons_zero]
  apply wpK_nil
  intro w9 h9
  have hb := h9.new
  clear h9 K8
  go_wp2_with fail
  refine bodyPost_ret (results_tmp (t := 6) rfl _ _ _) rfl ?_
  exact ⟨rfl, hb⟩
end MbP
end Go.Proofs.Yteglhalninlapaa
set_option maxRecDepth 100000
namespace Go.Proofs.Yteglhalninlapaa
open Go.ChangeShapes Go.WideShapes Go.ChangeAt Go.RowKit
theorem eltB : Elt 33 5 .u8 := elt_of Try.underlying33 (by kernel_rfl) (by kernel_rfl) (by kernel_rfl)
theorem byt_lit {w : World} {B g : Nat} {t : TypeId} {cs : Array Value} {fr : Nat × Nat} (h : w.heap[g]? = some (.cells cs t fr)) (hg : g < B) {l : List Nat} (hl : ∀ j, j < l.length → cs[j]? = some (.int .u8 (l.getD j 0 : Nat))) : Byt w B (some ⟨g, 0, none⟩) l := fun _ =>
  ⟨g, 0, rfl, hg, fun i hi => by rw [Nat.zero_add, cell_of_row w g i cs t fr h]; exact hl i hi⟩
theorem lit_ok {l : List Nat} {cs : Array Value} (h : cs = (nums .u8 l).toArray) : ∀ j, j < l.length → cs[j]? = some (.int .u8 (l.getD j 0 : Nat)) := fun j hj => by
  rw [h, List.getElem?_toArray]; exact nums_get .u8 hj
end Go.Proofs.Yteglhalninlapaa
set_option maxRecDepth 100000
namespace Go.Proofs.Yteglhalninlapaa
open Go.ChangeShapes Go.WideShapes Go.ChangeAt Go.RowKit
theorem infB : ∃ i : TypeInfo, Try.prog.info? 5 = some i ∧ i.zero = some (.int .u8 0) ∧ i.size = 1 ∧ i.bytes ≤ 1 := by
  have h1 : (Try.prog.info? 5).map (·.size) = some 1 := by kernel_rfl
  have h2 : (Try.prog.info? 5).map (fun i => decide (i.bytes ≤ 1)) = some true := by kernel_rfl
  have h3 : (Try.prog.info? 5).bind (·.zero) = some (.int .u8 0) := by kernel_rfl
  cases hi : Try.prog.info? 5 with
  | none => rw [hi] at h1; cases h1
  | some i =>
    rw [hi] at h1 h2 h3
    simp only [Option.map_some, Option.some.injEq, decide_eq_true_eq, Option.bind_some] at h1 h2 h3
    exact ⟨i, rfl, h3, h1, h2⟩
section
variable {w : World} {B B' : Nat} {v : Value} {l kk : List Nat} {ad : Addr} {m c : Nat} {ty : TypeId} {ops : Array Oper} {Q : Exit → Act → World → Prop} {a : Act} {rest : List Oper} {dst : Option Tmp} {pos : String} {after : Array Edge} {s x : Operand}
theorem run_appB (hown : Own 5 .u8 w B v l) (hrd : Nums .u8 w B' (some ad) kk) (hk : kk.length = m) (hsz : l.length + m ≤ 140737488355328) (hB : B ≤ w.heap.size) :
    ∃ v' w', (Builtin.append_ #[33, 33] ty #[v, .slice (some ad) m c]).run Try.prog w = .ok v' w' ∧ Own 5 .u8 w' B v' (l ++ kk) ∧ w.grownBy w' v.ownBlock := by
  obtain ⟨i, hi, hz, h1, h2⟩ := infB
  subst hk
  obtain ⟨v', w', hr, ho, hg, _⟩ := run_append_own (P := Try.prog) w B 33 ty 5 i (.int .u8 0) 1 i.bytes eltB.und hi hz h1 rfl rfl (by decide) v l.length _ hown ad kk.length c (nums .u8 kk) (by rw [nums_length, Nat.mul_one])
    (fun j u hj => by
      have hjm : j < kk.length := by
        have := (List.getElem?_eq_some_iff.1 hj).1
        rwa [nums_length] at this
      obtain ⟨b, o, e', _, hr⟩ := hrd (by omega)
      obtain rfl : ad = ⟨b, o, none⟩ := Option.some.inj e'
      rw [nums_get .u8 hjm] at hj
      rw [Addr.add_mid, hr j hjm]
      exact hj)
    (fun u hu => by
      obtain ⟨y, _, rfl⟩ := List.mem_map.1 hu
      rfl)
    (by unfold maxLen; omega) (Nat.le_trans (Nat.mul_le_mul hsz h2) (by omega)) hB
  refine ⟨v', w', hr, ?_, hg⟩
  unfold Own
  rw [List.length_append, nums_append]
  exact ho
theorem wappB {A : Option Addr} (hs : a.eval s = v) (hx : a.eval x = .slice A m c) (h0 : A = none → m = 0 ∧ c = 0) (hown : Own 5 .u8 w B v l) (hrd : Nums .u8 w B' A kk) (hk : kk.length = m) (hsz : l.length + m ≤ 140737488355328) (hB : B ≤ w.heap.size)
    (h : ∀ v' w', Own 5 .u8 w' B v' (l ++ kk) → w.grownBy w' v.ownBlock → wpList Try.prog ops Q rest (a.put dst v') w') :
    wpList Try.prog ops Q (⟨dst, .call { callee := .builtin .append, args := #[s, x], argTypes := #[33, 33] }, ty, pos, after, none⟩ :: rest) a w := by
  cases A with
  | none =>
    obtain ⟨rfl, rfl⟩ := h0 rfl
    obtain rfl := List.eq_nil_of_length_eq_zero hk
    rw [List.append_nil] at h
    exact wappN_none eltB hs hx hown (h v w hown ⟨rfl, rfl, rfl, Nat.le_refl _, fun _ _ _ => rfl⟩)
  | some ad =>
    obtain ⟨v', w', hr, h1, h2⟩ := run_appB (ty := ty) (c := c) hown hrd hk hsz hB
    refine wpList_plain rfl fun K hK => ?_
    unfold Oper.wp execOp
    simp only [resolve, invoke, builtin, Sem.run_bind, Sem.run_pure, Result.andThen_ok, List.map_toArray, List.map_cons, List.map_nil, hs, hx, hr]
    exact hK _ _ (h v' w' h1 h2)
end
end Go.Proofs.Yteglhalninlapaa
set_option maxRecDepth 100000
namespace Go.Proofs.Yteglhalninlapaa
open Go.ChangeShapes Go.WideShapes Go.ChangeAt Go.RowKit
namespace MbP
open MbM
structure ActV where
  d : Int
  i : Int
  s : Nat → Nat
  p : Option Addr
  pn : Nat
  pc : Nat
  on : Bool
  picks : List Nat
def actL (a : ActV) : List Value := .int .i64 a.d :: .int .i64 a.i :: ((ar 64 a.s).toList ++ [.slice a.p a.pn a.pc, .bool a.on])
def actA (a : ActV) : Array Value := (actL a).toArray
theorem ar_len (n : Nat) (f : Nat → Nat) : (ar n f).toList.length = n := by rw [Array.length_toList, size_ar]
theorem actL_length (a : ActV) : (actL a).length = 68 := by
  unfold actL
  rw [List.length_cons, List.length_cons, List.length_append, ar_len]; rfl
theorem actA_size (a : ActV) : (actA a).size = 68 := by unfold actA; rw [List.size_toArray, actL_length]
theorem act_0 (a : ActV) : (actA a)[0]? = some (.int .i64 a.d) := by unfold actA; rw [List.getElem?_toArray]; rfl
theorem act_1 (a : ActV) : (actA a)[1]? = some (.int .i64 a.i) := by unfold actA; rw [List.getElem?_toArray]; rfl
theorem act_s (a : ActV) {j : Nat} {u : Value} (h : (ar 64 a.s).toList[j]? = some u) : (actA a)[2 + j]? = some u := by
  have hj : j < (ar 64 a.s).toList.length := (List.getElem?_eq_some_iff.1 h).1
  unfold actA actL
  rw [List.getElem?_toArray, show 2 + j = j + 1 + 1 by omega, List.getElem?_cons_succ, List.getElem?_cons_succ, List.getElem?_append_left hj, h]
theorem act_66 (a : ActV) : (actA a)[66]? = some (.slice a.p a.pn a.pc) := by
  unfold actA actL
  rw [List.getElem?_toArray, List.getElem?_cons_succ, List.getElem?_cons_succ, List.getElem?_append_right (by rw [ar_len]; omega), ar_len]; rfl
theorem act_67 (a : ActV) : (actA a)[67]? = some (.bool a.on) := by
  unfold actA actL
  rw [List.getElem?_toArray, List.getElem?_cons_succ, List.getElem?_cons_succ, List.getElem?_append_right (by rw [ar_len]; omega), ar_len]; rfl
/-- An act as it stands in a world: its picks lie in blocks below B. -/
structure ActOk (w : World) (B : Nat) (a : ActV) : Prop where
  s : ∀ j, a.s j < 256
  arg : Arg w a.p a.picks a.pn a.pc
  old : ∀ b o, 0 < a.picks.length → a.p = some ⟨b, o, none⟩ → b < B
  few : a.pn ≤ 140737488351232
theorem and15 (D : Int) : ∃ r : Nat, r ≤ 15 ∧ bits .and .i64 D 15 = (r : Int) := by
  have h : (BitVec.ofInt 64 D &&& BitVec.ofInt 64 15).toNat ≤ 15 := by
    rw [BitVec.toNat_and]
    exact Nat.le_trans Nat.and_le_right (by decide)
  refine ⟨_, h, ?_⟩
  show IntKind.i64.wrap ((BitVec.ofInt 64 D &&& BitVec.ofInt 64 15).toNat : Int) = _
  generalize (BitVec.ofInt 64 D &&& BitVec.ofInt 64 15).toNat = n at *
  exact IntWalk.i64_in _ (by omega)
def kindOf (D : Int) : Nat := (bits .and .i64 D 15).toNat
theorem kind_le (D : Int) : kindOf D ≤ 15 := by obtain ⟨r, h1, h2⟩ := and15 D; unfold kindOf; rw [h2]; exact h1
theorem kind_bits (D : Int) : bits .and .i64 D 15 = (kindOf D : Int) := by obtain ⟨r, h1, h2⟩ := and15 D; unfold kindOf; rw [h2]; rfl
/-- What an act leaves. -/
def actK (st : St) (a : ActV) : Nat → St
  | 0 | 1 | 2 | 3 | 4 => wrT st a.i a.s
  | 5 => flT st
  | 6 => crash st a.picks
  | 7 => seT st a.i a.s
  | 8 => mkT st
  | 9 => bkT st a.i
  | 10 => fail st a.on
  | 11 => clean st
  | _ => st
def actT (st : St) (a : ActV) : St := actK st a (kindOf a.d)
end MbP
end Go.Proofs.Yteglhalninlapaa
set_option maxRecDepth 100000
namespace Go.Proofs.Yteglhalninlapaa
open Go.ChangeShapes Go.WideShapes Go.ChangeAt Go.RowKit
attribute [local go_sem] Gives
namespace MbP
open MbM
/-- What a call done to both leaves. -/
def outJ (rep : RepT) (B : Nat) (w : World) (m : Nat) (M I : Nat → Prop) (k : Nat) (st : St) (g : Nat) (L : Nat → Prop) (k2 : Nat) (w' : World) : Prop :=
  ∃ M' I' L', J2 rep B w' m M' I' (k + 1) st g L' (k2 + 1) st ∧ Grew w M I L g w' M' I' L'
section
variable {rep : RepT} {B : Nat} {w w' w2 : World} {m : Nat} {M I : Nat → Prop} {k : Nat} {st st' : St} {g : Nat} {L : Nat → Prop} {k2 : Nat}
theorem outJ.of (hb : Below w.heap.size w w') (h : outJ rep B w' m M I k st g L k2 w2) : outJ rep B w m M I k st g L k2 w2 := by
  obtain ⟨M', I', L', h1, h2⟩ := h
  exact ⟨M', I', L', h1, (Grew.below (hb := hb)).trans h2⟩
theorem ActOk.on {a : ActV} (h : ActOk w B a) (hb : Below w.heap.size w w') : ActOk w' B a := ⟨h.s, h.arg.on hb, h.old, h.few⟩
theorem Arg.turnT {A : Option Addr} {l : List Nat} {n c : Nat} {T : Nat → Prop} (h : Arg w A l n c) (ht : Turn T w w') (hT : ∀ b o, 0 < l.length → A = some ⟨b, o, .none⟩ → ¬ T b) : Arg w' A l n c := ⟨h.len, h.cap, h.max, h.b256, h.none, fun hn => by
  obtain ⟨b, o, e, hl, hr⟩ := h.byt hn
  exact ⟨b, o, e, Nat.lt_of_lt_of_le hl ht.size, fun i hi => ht.cell (p := ⟨b, o + i, .none⟩) (hr i hi) (hT b o hn e)⟩⟩
theorem ActOk.turn {a : ActV} {T : Nat → Prop} (h : ActOk w B a) (ht : Turn T w w') (hT : ∀ b, T b → B ≤ b) : ActOk w' B a := ⟨h.s, Arg.turnT h.arg ht fun b o hn e e2 => by have := hT b e2; have := h.old b o hn e; omega, h.old, h.few⟩
theorem J2.from' (h : J2 rep B w m M I k st g L k2 st') {T : Nat → Prop} (hT : ∀ b, T b → M b ∨ b = g) : ∀ b, T b → B ≤ b := fun b e => by
  rcases hT b e with e | e
  · exact h.low b (.inl e)
  · exact h.low b (.inr (.inr (.inr e)))
theorem own_place {v : Value} {l : List Nat} (h : Own 5 .u8 w B v l) (h256 : B256 l) : ∃ (A : Option Addr) (c : Nat), v = .slice A l.length c ∧ Arg w A l l.length c ∧ ∀ b o, A = some ⟨b, o, .none⟩ → B ≤ b := by
  obtain ⟨A, c, e, ha⟩ := h.arg h256
  refine ⟨A, c, e, ha, fun b o hA => ?_⟩
  rcases h.form with ⟨e2, _⟩ | ⟨g, cap, e2, h1, _⟩
  · have h3 := (Value.slice.inj (e.symm.trans e2)).1
    rw [hA] at h3; cases h3
  · have h3 := (Value.slice.inj (e.symm.trans e2)).1
    rw [hA] at h3; cases h3; exact h1
theorem act_row {a : ActV} {g5 : Nat} (h : Blk w g5 35 (actA a)) : w.rangeAt g5 2 (ar 64 a.s).toList := fun j _ hu => (h.cell (2 + j)).trans (act_s a hu)
end
set_option maxHeartbeats 800000 in
set_option maxRecDepth 100000 in
theorem do_any {rep : RepT} (hC : MemC rep) (B m k g k2 : Nat) (M I L : Nat → Prop) (st : St) (a : ActV) (hk : k ≤ 1000) (hk2 : k2 ≤ 1000) (w : World) (h : J2 rep B w m M I k st g L k2 st) (ha : ActOk w B a) :
    Calls Try.prog 12 #[at' m, at' g, .agg (actA a)] w fun e w' => e = .returned (.bool true) ∧ outJ rep B w m M I k (actT st a) g L k2 w' := by
  have H := hid h
  have HA := hid ha
  have HK := hid hk
  have HK2 := hid hk2
  clear h ha hk hk2
  unfold at' actT
  have kb := kind_bits a.d
  have kl := kind_le a.d
  generalize kindOf a.d = r at *
  go_enter Try.func12, Try.ntmps12
  go_upto_region 1 with fail
  generalize hw1 : World.alloc w _ = w1
  obtain ⟨g5, hg5⟩ : ∃ n, n = w.heap.size := ⟨_, rfl⟩
  have B5 := hid (show Blk w1 g5 35 (actA a) by rw [← hw1, hg5]; exact Blk.new w _ _)
  have h1 : Below w.heap.size w w1 := by rw [← hw1]; exact (Below.refl _ _).alloc (Nat.le_refl _) _
  have J1 := hid (H.out.below hC h1)
  have A1 := hid (HA.out.on h1)
  have BE := hid h1
  have HF := hid (show ¬ (M g5 ∨ g5 = g) from fun e => by
    rcases e with e | e
    · have := hC.lt H.out.prog g5 (.inl e); omega
    · have := H.out.ref.lt.1; omega)
  rw [← hg5]
  have p0 := (B5.out.cell 0).trans (act_0 a)
  have p1 := (B5.out.cell 1).trans (act_1 a)
  have p67 := (B5.out.cell 67).trans (act_67 a)
  have p66 := (B5.out.cell 66).trans (act_66 a)
  have q2 := hid (act_row B5.out)
  clear hw1 hg5 h1 H HA
  obtain rfl | rfl | rfl | rfl | rfl | rfl | rfl | rfl | rfl | rfl | rfl | rfl | rfl | rfl | rfl | rfl : r = 0 ∨ r = 1 ∨ r = 2 ∨ r = 3 ∨ r = 4 ∨ r = 5 ∨ r = 6 ∨ r = 7 ∨ r = 8 ∨ r = 9 ∨ r = 10 ∨ r = 11 ∨ r = 12 ∨ r = 13 ∨ r = 14 ∨ r = 15 := by omega
  · have kb' : bits .and .i64 a.d 15 = 0 := kb
    clear kb kl
    go_wp2_with ((with_reducible apply ldAm tSe); rfl; exact q2.out)
    refine (hC.write J1.out.prog J1.out.ok HK.out a.i a.s A1.out.s).mono ?_
    rintro e w2 ⟨rfl, ho⟩
    obtain ⟨M2, I2, j2, g2⟩ := J1.out.byProg hC ho (wr_ok J1.out.ok a.i A1.out.s)
    have JJ := hid j2
    have B6 := B5.out.turn g2.2.2.2 HF.out
    have p1 := (B6.cell 1).trans (act_1 a)
    have p67 := (B6.cell 67).trans (act_67 a)
    have q2 := hid (act_row B6)
    have GG := hid g2
    clear ho j2 g2 B6 p0 p66
    go_wp2_with ((with_reducible apply ldAm tSe); rfl; exact q2.out)
    refine (rs_write JJ.out.ref HK2.out a.i a.s).mono ?_
    rintro e w3 ⟨rfl, ho⟩
    obtain ⟨L3, j3, g3⟩ := JJ.out.byRef hC ho
    have hf := outJ.of BE.out ⟨M2, I2, L3, j3, GG.out.trans g3⟩
    clear ho j3 g3
    go_wp2_with fail
    refine bodyPost_ret (results_tmp (t := 6) rfl _ _ _) rfl ?_
    exact ⟨rfl, hf⟩
  · have kb' : bits .and .i64 a.d 15 = 1 := kb
    clear kb kl
    go_wp2_with ((with_reducible apply ldAm tSe); rfl; exact q2.out)
    refine (hC.write J1.out.prog J1.out.ok HK.out a.i a.s A1.out.s).mono ?_
    rintro e w2 ⟨rfl, ho⟩
    obtain ⟨M2, I2, j2, g2⟩ := J1.out.byProg hC ho (wr_ok J1.out.ok a.i A1.out.s)
    have JJ := hid j2
    have B6 := B5.out.turn g2.2.2.2 HF.out
    have p1 := (B6.cell 1).trans (act_1 a)
    have p67 := (B6.cell 67).trans (act_67 a)
    have q2 := hid (act_row B6)
    have GG := hid g2
    clear ho j2 g2 B6 p0 p66
    go_wp2_with ((with_reducible apply ldAm tSe); rfl; exact q2.out)
    refine (rs_write JJ.out.ref HK2.out a.i a.s).mono ?_
    rintro e w3 ⟨rfl, ho⟩
    obtain ⟨L3, j3, g3⟩ := JJ.out.byRef hC ho
    have hf := outJ.of BE.out ⟨M2, I2, L3, j3, GG.out.trans g3⟩
    clear ho j3 g3
    go_wp2_with fail
    refine bodyPost_ret (results_tmp (t := 6) rfl _ _ _) rfl ?_
    exact ⟨rfl, hf⟩
  · have kb' : bits .and .i64 a.d 15 = 2 := kb
    clear kb kl
    go_wp2_with ((with_reducible apply ldAm tSe); rfl; exact q2.out)
    refine (hC.write J1.out.prog J1.out.ok HK.out a.i a.s A1.out.s).mono ?_
    rintro e w2 ⟨rfl, ho⟩
    obtain ⟨M2, I2, j2, g2⟩ := J1.out.byProg hC ho (wr_ok J1.out.ok a.i A1.out.s)
    have JJ := hid j2
    have B6 := B5.out.turn g2.2.2.2 HF.out
    have p1 := (B6.cell 1).trans (act_1 a)
    have p67 := (B6.cell 67).trans (act_67 a)
    have q2 := hid (act_row B6)
    have GG := hid g2
    clear ho j2 g2 B6 p0 p66
    go_wp2_with ((with_reducible apply ldAm tSe); rfl; exact q2.out)
    refine (rs_write JJ.out.ref HK2.out a.i a.s).mono ?_
    rintro e w3 ⟨rfl, ho⟩
    obtain ⟨L3, j3, g3⟩ := JJ.out.byRef hC ho
    have hf := outJ.of BE.out ⟨M2, I2, L3, j3, GG.out.trans g3⟩
    clear ho j3 g3
    go_wp2_with fail
    refine bodyPost_ret (results_tmp (t := 6) rfl _ _ _) rfl ?_
    exact ⟨rfl, hf⟩
  · have kb' : bits .and .i64 a.d 15 = 3 := kb
    clear kb kl
    go_wp2_with ((with_reducible apply ldAm tSe); rfl; exact q2.out)
    refine (hC.write J1.out.prog J1.out.ok HK.out a.i a.s A1.out.s).mono ?_
    rintro e w2 ⟨rfl, ho⟩
    obtain ⟨M2, I2, j2, g2⟩ := J1.out.byProg hC ho (wr_ok J1.out.ok a.i A1.out.s)
    have JJ := hid j2
    have B6 := B5.out.turn g2.2.2.2 HF.out
    have p1 := (B6.cell 1).trans (act_1 a)
    have p67 := (B6.cell 67).trans (act_67 a)
    have q2 := hid (act_row B6)
    have GG := hid g2
    clear ho j2 g2 B6 p0 p66
    go_wp2_with ((with_reducible apply ldAm tSe); rfl; exact q2.out)
    refine (rs_write JJ.out.ref HK2.out a.i a.s).mono ?_
    rintro e w3 ⟨rfl, ho⟩
    obtain ⟨L3, j3, g3⟩ := JJ.out.byRef hC ho
    have hf := outJ.of BE.out ⟨M2, I2, L3, j3, GG.out.trans g3⟩
    clear ho j3 g3
    go_wp2_with fail
    refine bodyPost_ret (results_tmp (t := 6) rfl _ _ _) rfl ?_
    exact ⟨rfl, hf⟩
  · have kb' : bits .and .i64 a.d 15 = 4 := kb
    clear kb kl
    go_wp2_with ((with_reducible apply ldAm tSe); rfl; exact q2.out)
    refine (hC.write J1.out.prog J1.out.ok HK.out a.i a.s A1.out.s).mono ?_
    rintro e w2 ⟨rfl, ho⟩
    obtain ⟨M2, I2, j2, g2⟩ := J1.out.byProg hC ho (wr_ok J1.out.ok a.i A1.out.s)
    have JJ := hid j2
    have B6 := B5.out.turn g2.2.2.2 HF.out
    have p1 := (B6.cell 1).trans (act_1 a)
    have p67 := (B6.cell 67).trans (act_67 a)
    have q2 := hid (act_row B6)
    have GG := hid g2
    clear ho j2 g2 B6 p0 p66
    go_wp2_with ((with_reducible apply ldAm tSe); rfl; exact q2.out)
    refine (rs_write JJ.out.ref HK2.out a.i a.s).mono ?_
    rintro e w3 ⟨rfl, ho⟩
    obtain ⟨L3, j3, g3⟩ := JJ.out.byRef hC ho
    have hf := outJ.of BE.out ⟨M2, I2, L3, j3, GG.out.trans g3⟩
    clear ho j3 g3
    go_wp2_with fail
    refine bodyPost_ret (results_tmp (t := 6) rfl _ _ _) rfl ?_
    exact ⟨rfl, hf⟩
  · have kb' : bits .and .i64 a.d 15 = 5 := kb
    clear kb kl
    go_wp2_with fail
    refine (hC.flush J1.out.prog J1.out.ok HK.out).mono ?_
    rintro e w2 ⟨rfl, ho⟩
    obtain ⟨M2, I2, j2, g2⟩ := J1.out.byProg hC ho (fl_ok J1.out.ok)
    have JJ := hid j2
    have B6 := B5.out.turn g2.2.2.2 HF.out
    have p1 := (B6.cell 1).trans (act_1 a)
    have p67 := (B6.cell 67).trans (act_67 a)
    have q2 := hid (act_row B6)
    have GG := hid g2
    clear ho j2 g2 B6 p0 p66
    go_wp2_with fail
    refine (rs_flush JJ.out.ref HK2.out).mono ?_
    rintro e w3 ⟨rfl, ho⟩
    obtain ⟨L3, j3, g3⟩ := JJ.out.byRef hC ho
    have hf := outJ.of BE.out ⟨M2, I2, L3, j3, GG.out.trans g3⟩
    clear ho j3 g3
    go_wp2_with fail
    refine bodyPost_ret (results_tmp (t := 6) rfl _ _ _) rfl ?_
    exact ⟨rfl, hf⟩
  · have kb' : bits .and .i64 a.d 15 = 6 := kb
    clear kb kl
    have OE : Hid (Own 5 .u8 (w1.alloc (.cells #[] 5)) w1.heap.size (.slice (some ⟨w1.heap.size, 0, none⟩) 0 0) []) := hid (Own.empty w1 (Nat.le_refl _))
    have BA := hid ((Below.refl w1.heap.size w1).alloc (Nat.le_refl _) (.cells #[] 5))
    have AE := hid (A1.out.on BA.out)
    have p66a := (BA.out.cell (p := ⟨g5, 66, none⟩) B5.out.lt).trans p66
    go_upto_region 14 with (at_builtin; (with_reducible apply wappB); rfl; rfl; exact AE.out.arg.none; exact OE.out; exact AE.out.arg.byt.nums; exact AE.out.arg.len; (have := AE.out.few; rw [List.length_nil]; omega); (simp); intro v2 w2 o2 g2)
    have h2 := below_grown BA.out g2 OE.out (Nat.le_refl _) (Nat.le_refl _)
    rw [List.nil_append] at o2
    obtain ⟨A, c, rfl, aA, hA⟩ := own_place o2 A1.out.arg.b256
    have JB := hid (J1.out.below hC h2)
    have B6 := B5.out.below h2 B5.out.lt
    have AA := hid aA
    have A2 := hid (A1.out.on h2)
    have B2 := hid (BE.out.trans (h2.mono BE.out.size))
    have HL := hid (show ∀ b o, A = some ⟨b, o, none⟩ → ¬ (M b ∨ I b) from fun b o e e2 => by have := hC.lt J1.out.prog b e2; have := hA b o e; omega)
    have HG := hid (show ∀ b o, A = some ⟨b, o, none⟩ → ¬ (b = g) from fun b o e e2 => by have := J1.out.ref.lt.1; have := hA b o e; omega)
    have p66 := (B6.cell 66).trans (act_66 a)
    have B6' := hid B6
    clear OE BA AE p66a h2 o2 g2 aA hA B6 p0 p1 p67 q2 B5
    go_wp2_with fail
    refine (hC.crash JB.out.prog JB.out.ok HK.out A a.picks a.picks.length c AA.out (fun b o _ e => HL.out b o e)).mono ?_
    rintro e w3 ⟨rfl, ho⟩
    obtain ⟨M2, I2, j2, g2⟩ := JB.out.byProg hC ho (cr_ok JB.out.ok a.picks)
    have JJ := hid j2
    have GG := hid g2
    have B7 := B6'.out.turn g2.2.2.2 HF.out
    have A3 := hid (A2.out.turn g2.2.2.2 (JB.out.from' fun _ e => e))
    have HM := hid (show ∀ b o, A = some ⟨b, o, none⟩ → ¬ (M b ∨ b = g) from fun b o e e2 => e2.elim (fun e3 => HL.out b o e (.inl e3)) (HG.out b o e))
    have AA3 := hid (Arg.turnT AA.out g2.2.2.2 (fun b o _ e => HM.out b o e))
    have p66 := (B7.cell 66).trans (act_66 a)
    have B7' := hid B7
    clear ho j2 g2 B7 AA A2 B6'
    go_wp2_with fail
    refine (rs_crash JJ.out.ref HK2.out a.p a.picks a.pn a.pc A3.out.arg (fun b o hn e e2 => by have := A3.out.old b o hn e; have := JJ.out.low g (.inr (.inr (.inr rfl))); omega)).mono ?_
    rintro e w4 ⟨rfl, ho⟩
    have T4 := hid ho.choose_spec.2.2
    obtain ⟨L3, j3, g3⟩ := JJ.out.byRef hC ho
    have hf := hid (outJ.of B2.out ⟨M2, I2, L3, j3, GG.out.trans g3⟩)
    have B8 := B7'.out.turn T4.out (fun e => HF.out (.inr e))
    have p66 := (B8.cell 66).trans (act_66 a)
    have A4 := hid (Arg.turnT A3.out.arg T4.out (fun b o hn e e2 => by have := A3.out.old b o hn e; have := JJ.out.low g (.inr (.inr (.inr rfl))); omega))
    have AA4 := hid (Arg.turnT AA3.out T4.out (fun b o _ e => HG.out b o e))
    have s1 := AA4.out.str
    have s2 := A4.out.str
    clear ho j3 g3 B8 T4 B7' AA3 A3
    go_wp2_with fail
    refine bodyPost_ret (results_tmp (t := 6) rfl _ _ _) rfl ?_
    exact ⟨rfl, hf.out⟩
  · have kb' : bits .and .i64 a.d 15 = 7 := kb
    clear kb kl
    go_wp2_with ((with_reducible apply ldAm tSe); rfl; exact q2.out)
    refine (hC.set J1.out.prog J1.out.ok HK.out a.i a.s A1.out.s).mono ?_
    rintro e w2 ⟨rfl, ho⟩
    obtain ⟨M2, I2, j2, g2⟩ := J1.out.byProg hC ho (se_ok J1.out.ok a.i A1.out.s)
    have JJ := hid j2
    have B6 := B5.out.turn g2.2.2.2 HF.out
    have p1 := (B6.cell 1).trans (act_1 a)
    have p67 := (B6.cell 67).trans (act_67 a)
    have q2 := hid (act_row B6)
    have GG := hid g2
    clear ho j2 g2 B6 p0 p66
    go_wp2_with ((with_reducible apply ldAm tSe); rfl; exact q2.out)
    refine (rs_set JJ.out.ref HK2.out a.i a.s).mono ?_
    rintro e w3 ⟨rfl, ho⟩
    obtain ⟨L3, j3, g3⟩ := JJ.out.byRef hC ho
    have hf := outJ.of BE.out ⟨M2, I2, L3, j3, GG.out.trans g3⟩
    clear ho j3 g3
    go_wp2_with fail
    refine bodyPost_ret (results_tmp (t := 6) rfl _ _ _) rfl ?_
    exact ⟨rfl, hf⟩
  · have kb' : bits .and .i64 a.d 15 = 8 := kb
    clear kb kl
    go_wp2_with fail
    refine (hC.mark J1.out.prog J1.out.ok HK.out).mono ?_
    rintro e w2 ⟨rfl, ho⟩
    obtain ⟨M2, I2, j2, g2⟩ := J1.out.byProg hC ho (mk_ok J1.out.ok)
    have JJ := hid j2
    have B6 := B5.out.turn g2.2.2.2 HF.out
    have p1 := (B6.cell 1).trans (act_1 a)
    have p67 := (B6.cell 67).trans (act_67 a)
    have q2 := hid (act_row B6)
    have GG := hid g2
    clear ho j2 g2 B6 p0 p66
    go_wp2_with fail
    refine (rs_mark JJ.out.ref HK2.out).mono ?_
    rintro e w3 ⟨rfl, ho⟩
    obtain ⟨L3, j3, g3⟩ := JJ.out.byRef hC ho
    have hf := outJ.of BE.out ⟨M2, I2, L3, j3, GG.out.trans g3⟩
    clear ho j3 g3
    go_wp2_with fail
    refine bodyPost_ret (results_tmp (t := 6) rfl _ _ _) rfl ?_
    exact ⟨rfl, hf⟩
  · have kb' : bits .and .i64 a.d 15 = 9 := kb
    clear kb kl
    go_wp2_with fail
    refine (hC.back J1.out.prog J1.out.ok HK.out a.i).mono ?_
    rintro e w2 ⟨rfl, ho⟩
    obtain ⟨M2, I2, j2, g2⟩ := J1.out.byProg hC ho (bk_ok J1.out.ok a.i)
    have JJ := hid j2
    have B6 := B5.out.turn g2.2.2.2 HF.out
    have p1 := (B6.cell 1).trans (act_1 a)
    have p67 := (B6.cell 67).trans (act_67 a)
    have q2 := hid (act_row B6)
    have GG := hid g2
    clear ho j2 g2 B6 p0 p66
    go_wp2_with fail
    refine (rs_back JJ.out.ref a.i).mono ?_
    rintro e w3 ⟨rfl, ho⟩
    obtain ⟨L3, j3, g3⟩ := JJ.out.byRef hC ho
    have hf := outJ.of BE.out ⟨M2, I2, L3, j3, GG.out.trans g3⟩
    clear ho j3 g3
    go_wp2_with fail
    refine bodyPost_ret (results_tmp (t := 6) rfl _ _ _) rfl ?_
    exact ⟨rfl, hf⟩
  · have kb' : bits .and .i64 a.d 15 = 10 := kb
    clear kb kl
    go_wp2_with fail
    refine (hC.fail J1.out.prog a.on).mono ?_
    rintro e w2 ⟨rfl, ho⟩
    obtain ⟨M2, I2, j2, g2⟩ := J1.out.byProg hC ho (fa_ok J1.out.ok a.on)
    have JJ := hid j2
    have B6 := B5.out.turn g2.2.2.2 HF.out
    have p1 := (B6.cell 1).trans (act_1 a)
    have p67 := (B6.cell 67).trans (act_67 a)
    have q2 := hid (act_row B6)
    have GG := hid g2
    clear ho j2 g2 B6 p0 p66
    go_wp2_with fail
    refine (rs_fail JJ.out.ref a.on).mono ?_
    rintro e w3 ⟨rfl, ho⟩
    obtain ⟨L3, j3, g3⟩ := JJ.out.byRef hC ho
    have hf := outJ.of BE.out ⟨M2, I2, L3, j3, GG.out.trans g3⟩
    clear ho j3 g3
    go_wp2_with fail
    refine bodyPost_ret (results_tmp (t := 6) rfl _ _ _) rfl ?_
    exact ⟨rfl, hf⟩
  · have kb' : bits .and .i64 a.d 15 = 11 := kb
    clear kb kl
    go_wp2_with fail
    refine (hC.clean J1.out.prog).mono ?_
    rintro e w2 ⟨rfl, ho⟩
    obtain ⟨M2, I2, j2, g2⟩ := J1.out.byProg hC ho (cl_ok J1.out.ok)
    have JJ := hid j2
    have GG := hid g2
    have c5 := j2.ref.fields.2.2.1
    have c0 := j2.ref.fields.1
    have f5 := j2.ref.fr5
    have ho2 : RSo w2 g L (k2 + 1) (clean st) (w2.setCell ⟨g, 5, none⟩ (.bool false)) := ⟨L, j2.ref.clean, fun _ e => .inl e, Turn.setCell _ _ _ rfl⟩
    obtain ⟨L3, j3, g3⟩ := JJ.out.byRef hC ho2
    have hf := hid (outJ.of BE.out ⟨M2, I2, L3, j3, GG.out.trans g3⟩)
    clear ho ho2 j2 g2 j3 g3 p0 p1 p66 p67 q2
    go_wp2_with fail
    refine bodyPost_ret (results_tmp (t := 6) rfl _ _ _) rfl ?_
    exact ⟨rfl, hf.out⟩
  · have kb' : bits .and .i64 a.d 15 = 12 := kb
    clear kb kl
    go_wp2_with fail
    refine bodyPost_ret (results_tmp (t := 6) rfl _ _ _) rfl ?_
    exact ⟨rfl, outJ.of BE.out ⟨M, I, L, J1.out.mono hC (Nat.le_succ k) (Nat.le_succ k2), Grew.refl _ _ _ _ _⟩⟩
  · have kb' : bits .and .i64 a.d 15 = 13 := kb
    clear kb kl
    go_wp2_with fail
    refine bodyPost_ret (results_tmp (t := 6) rfl _ _ _) rfl ?_
    exact ⟨rfl, outJ.of BE.out ⟨M, I, L, J1.out.mono hC (Nat.le_succ k) (Nat.le_succ k2), Grew.refl _ _ _ _ _⟩⟩
  · have kb' : bits .and .i64 a.d 15 = 14 := kb
    clear kb kl
    go_wp2_with fail
    refine bodyPost_ret (results_tmp (t := 6) rfl _ _ _) rfl ?_
    exact ⟨rfl, outJ.of BE.out ⟨M, I, L, J1.out.mono hC (Nat.le_succ k) (Nat.le_succ k2), Grew.refl _ _ _ _ _⟩⟩
  · have kb' : bits .and .i64 a.d 15 = 15 := kb
    clear kb kl
    go_wp2_with fail
    refine bodyPost_ret (results_tmp (t := 6) rfl _ _ _) rfl ?_
    exact ⟨rfl, outJ.of BE.out ⟨M, I, L, J1.out.mono hC (Nat.le_succ k) (Nat.le_succ k2), Grew.refl _ _ _ _ _⟩⟩
end MbP
end Go.Proofs.Yteglhalninlapaa
set_option maxRecDepth 100000
namespace Go.Proofs.Yteglhalninlapaa
open Go.ChangeShapes Go.WideShapes Go.ChangeAt Go.RowKit
attribute [local go_sem] Gives
namespace MbP
open MbM
set_option maxRecDepth 100000 in
theorem full_any (x : Nat) (hx : x < 256) (w : World) :
    Calls Try.prog 17 #[.int .u8 x] w fun e w' => e = .returned (.agg (ar 64 fun _ => x)) ∧ Below w.heap.size w w' := by
  go_enter Try.func17, Try.ntmps17
  go_upto_region 2 with (with_reducible apply alA tSe)
  generalize hw1 : World.alloc (World.alloc w _) _ = w1
  have b0 : Blk w1 w.heap.size 32 (ar 64 fun _ => 0) := by rw [← hw1]; exact (Blk.new _ _ _).alloc _
  have b1 : Blk w1 (w.heap.size + 1) 32 (ar 64 fun _ => 0) := by rw [← hw1]; exact Blk.top rfl (by simp)
  have hb : Below w.heap.size w w1 := by rw [← hw1]; exact ((Below.refl _ _).alloc (Nat.le_refl _) _).alloc (by simp) _
  clear hw1
  go_wp2_with fail
  go_loopw [4] (fun i wr => ∃ k : Nat, k ≤ 64 ∧ i = .int .i64 k ∧ Blk wr w.heap.size 32 (ar 64 fun _ => 0) ∧ Blk wr (w.heap.size + 1) 32 (ar 64 (upTo k (fun _ => 0) fun _ => x)) ∧ Below w.heap.size w wr) (fun i _ => 64 - (intOf i).toNat)
  case atStart => exact ⟨0, by omega, rfl, b0, by rw [upTo_zero]; exact b1, hb⟩
  case round =>
    clear b0 b1 hb
    obtain ⟨k, hk, rfl, b0, b1, hb⟩ := hrel
    by_cases hlt : k < 64
    · have c1 : wr.cell? ⟨w.heap.size + 1, k, none⟩ = some (.int .u8 (upTo k (fun _ => 0) (fun _ => x) k : Nat)) := by rw [b1.cell, get_ar hlt]
      have c3 := b1.frozen k
      go_wp2_with fail
      go_roundw
      case rel => exact ⟨k + 1, by omega, by go_num, b0.setCell_other (by simp) _, upTo_step (b1.setCell_same k _), hb.setCell (by simp) _⟩
      case measure => simp [intOf]; omega
    · have hs : Blk wr (w.heap.size + 1) 32 (ar 64 fun _ => x) := by rw [upTo_all (by omega)] at b1; exact b1
      clear b1
      go_wp2_with (first | ((with_reducible apply ldA tSe); rfl; assumption) | ((with_reducible apply stA tSe); rfl; rfl; assumption))
      apply ret_ar tSe Try.results17
      · rfl
      · rfl
      · exact b0.setRow_same _
      exact ⟨rfl, below_setRow hb (by omega) _⟩
/-- A member of the program's; all that it lays lies from block B on. -/
structure P1 (rep : RepT) (B : Nat) (w : World) (m : Nat) (M I : Nat → Prop) (k : Nat) (st : St) : Prop where
  prog : rep w m M I k st
  ok : st.ok
  low : ∀ b, M b ∨ I b → B ≤ b
  base : B ≤ w.heap.size
section
variable {rep : RepT} {B : Nat} {w w' : World} {m : Nat} {M I : Nat → Prop} {k : Nat} {st st' : St}
theorem P1.below (hC : MemC rep) (h : P1 rep B w m M I k st) (hb : Below w.heap.size w w') : P1 rep B w' m M I k st where
  prog := hC.frame h.prog (Turn.of_below hb) fun b hb' => by have := hC.lt h.prog b hb'; omega
  ok := h.ok
  low := h.low
  base := Nat.le_trans h.base hb.size
theorem P1.turn (hC : MemC rep) (h : P1 rep B w m M I k st) {T : Nat → Prop} (ht : Turn T w w') (hT : ∀ b, M b ∨ I b → ¬ T b) : P1 rep B w' m M I k st where
  prog := hC.frame h.prog ht hT
  ok := h.ok
  low := h.low
  base := Nat.le_trans h.base ht.size
theorem P1.mono {k' : Nat} (hC : MemC rep) (h : P1 rep B w m M I k st) (hk : k ≤ k') : P1 rep B w m M I k' st := ⟨hC.mono h.prog hk, h.ok, h.low, h.base⟩
/-- What a call may turn, and what may come to what is laid. -/
def Went (w : World) (M I : Nat → Prop) (w' : World) (M' I' : Nat → Prop) : Prop :=
  (∀ b, M' b → M b ∨ w.heap.size ≤ b) ∧ (∀ b, I' b → M b ∨ I b ∨ w.heap.size ≤ b) ∧ Turn M w w'
theorem Went.refl (w : World) (M I : Nat → Prop) : Went w M I w M I := ⟨fun _ h => .inl h, fun _ h => .inr (.inl h), Turn.refl _ _⟩
theorem Went.trans {w2 : World} {M' I' M2 I2 : Nat → Prop} (h : Went w M I w' M' I') (h2 : Went w' M' I' w2 M2 I2) : Went w M I w2 M2 I2 := by
  have hs := h.2.2.size
  refine ⟨fun b hb => ?_, fun b hb => ?_, h.2.2.trans h2.2.2 fun b hb => h.1 b hb⟩
  · rcases h2.1 b hb with e | e
    · exact h.1 b e
    · exact .inr (Nat.le_trans hs e)
  · rcases h2.2.1 b hb with e | e | e
    · rcases h.1 b e with e | e
      · exact .inl e
      · exact .inr (.inr e)
    · exact h.2.1 b e
    · exact .inr (.inr (Nat.le_trans hs e))
theorem Went.below (hb : Below w.heap.size w w') : Went w M I w' M I := ⟨fun _ h => .inl h, fun _ h => .inr (.inl h), Turn.of_new hb⟩
theorem P1.out (h : P1 rep B w m M I k st) {k' : Nat} (ho : outP rep w m M I k' st' w') (hok : st'.ok) : ∃ M' I', P1 rep B w' m M' I' k' st' ∧ Went w M I w' M' I' := by
  obtain ⟨M', I', h1, h2, h3, h4⟩ := ho
  refine ⟨M', I', ⟨h1, hok, fun b hb => ?_, Nat.le_trans h.base h4.size⟩, h2, h3, h4⟩
  rcases hb with hb | hb
  · rcases h2 b hb with e | e
    · exact h.low b (.inl e)
    · exact Nat.le_trans h.base e
  · rcases h3 b hb with e | e | e
    · exact h.low b (.inl e)
    · exact h.low b (.inr e)
    · exact Nat.le_trans h.base e
theorem P1.went {M' I' : Nat → Prop} (h : P1 rep B w m M I k st) (hw : Went w M I w' M' I') : Below B w w' := hw.2.2.below h.base fun b e => h.low b (.inl e)
/-- Another member's blocks are none of those that this one turns. -/
def Sep (M I N J : Nat → Prop) : Prop := (∀ b, M b → ¬ (N b ∨ J b)) ∧ ∀ b, N b → ¬ (M b ∨ I b)
theorem Sep.symm {M I N J : Nat → Prop} (h : Sep M I N J) : Sep N J M I := ⟨h.2, h.1⟩
theorem P1.aside {M' I' N J : Nat → Prop} {m2 k2 B2 : Nat} {st2 : St} (hC : MemC rep) (h2 : P1 rep B2 w m2 N J k2 st2) (hw : Went w M I w' M' I') (hs : Sep M I N J) : P1 rep B2 w' m2 N J k2 st2 ∧ Sep M' I' N J := by
  refine ⟨h2.turn hC hw.2.2 fun b hb e => hs.1 b e hb, fun b hb e => ?_, fun b hb e => ?_⟩
  · rcases hw.1 b hb with e2 | e2
    · exact hs.1 b e2 e
    · have := hC.lt h2.prog b e; omega
  · have hlt := hC.lt h2.prog b (.inl hb)
    rcases e with e | e
    · rcases hw.1 b e with e2 | e2
      · exact hs.2 b hb (.inl e2)
      · omega
    · rcases hw.2.1 b e with e2 | e2 | e2
      · exact hs.2 b hb (.inl e2)
      · exact hs.2 b hb (.inr e2)
      · omega
end
end MbP
end Go.Proofs.Yteglhalninlapaa
set_option maxRecDepth 100000
namespace Go.Proofs.Yteglhalninlapaa
section
variable {P : Program} {ops : Array Oper}
theorem wpK_list {C : World → Prop} {Q : Exit → Act → World → Prop} {rest : List Oper} : ∀ (l : List Oper) (a : Act) (w : World), wpK P ops C (fun a' => ∀ w', C w' → wpList P ops Q rest a' w') l a → C w → wpList P ops Q (l ++ rest) a w
  | [], _, w, h, hC => h w hC
  | o :: l, a, w, h, hC => by
    obtain ⟨v, h1, h2⟩ := h
    rw [List.cons_append, wpList]
    rcases h1 with ⟨hw, hg⟩ | ⟨hw, rfl⟩
    · rw [if_pos hw]
      exact .inl (wp_of_gives (hg w hC) fun w' hC' => wpK_list l _ w' h2 hC')
    · rw [if_neg (by rw [hw]; exact Bool.false_ne_true)]
      exact wpK_list l _ w h2 hC
theorem wp_region_fixed {id : Nat} {Q : Exit → Act → World → Prop} {C : World → Prop} {a : Act} {w : World} {l : List Oper} (n : Nat) (hC : C w)
    (h : wpK P l.toArray C (fun a' => ∀ w', C w' → wpList P l.toArray Q (l.drop n) a' w') (l.take n) a) : (Code.region id l.toArray false).wp P Q a w := by
  refine wp_region_lit ?_
  have := wpK_list _ _ _ h hC
  rwa [List.take_append_drop] at this
end
end Go.Proofs.Yteglhalninlapaa
set_option maxRecDepth 100000
namespace Go.Proofs.Yteglhalninlapaa
open Go.ChangeShapes Go.WideShapes Go.ChangeAt Go.RowKit
attribute [local go_sem] Gives
namespace MbP
open MbM
/-- Whether this is seen. -/
def sees (st : St) (i : Int) (x : Nat → Nat) : Bool := decide (rdE st i = 0) && eqA 64 (rdS st i) x
set_option maxHeartbeats 800000 in
set_option maxRecDepth 100000 in
theorem reads_any {rep : RepT} (hC : MemC rep) (m k : Nat) (M I : Nat → Prop) (st : St) (i : Int) (x : Nat → Nat) (hk : k ≤ 1000) (w : World) (h : rep w m M I k st) (hok : st.ok) :
    Calls Try.prog 19 #[at' m, .int .i64 i, .agg (ar 64 x)] w fun e w' => e = .returned (.bool (sees st i x)) ∧ Below w.heap.size w w' := by
  have H := hid h
  have HK := hid hk
  have HO := hid hok
  obtain ⟨q, hq⟩ : ∃ q, q = sees st i x := ⟨_, rfl⟩
  rw [← hq]
  unfold sees at hq
  obtain ⟨X, hX⟩ : ∃ X, X = rdS st i := ⟨_, rfl⟩
  obtain ⟨E, hE⟩ : ∃ E, E = rdE st i := ⟨_, rfl⟩
  rw [← hX, ← hE] at hq
  have HX := hid hX
  have HE := hid hE
  have HQ := hid hq
  clear h hk hok hX hE hq
  unfold at'
  go_enter Try.func19, Try.ntmps19
  go_upto_region 1 with fail
  generalize hw1 : World.alloc w _ = w1
  obtain ⟨g5, hg5⟩ : ∃ n, n = w.heap.size := ⟨_, rfl⟩
  have b1 := hid (show Blk w1 g5 32 (ar 64 x) by rw [← hw1, hg5]; exact Blk.new w _ _)
  have h1 : Below w.heap.size w w1 := by rw [← hw1]; exact (Below.refl _ _).alloc (Nat.le_refl _) _
  have H1 := hid (hC.frame H.out (Turn.of_below h1) fun b hb' => by have := hC.lt H.out b hb'; omega)
  have B1 := hid h1
  rw [← hg5]
  clear hw1 hg5 h1 H
  go_wp2_with fail
  refine (hC.read H1.out HO.out HK.out i).mono ?_
  rintro e w2 ⟨rfl, h2⟩
  rw [← HX.out, ← HE.out]
  have b2 := hid (b1.out.below h2 b1.out.lt)
  have B2 := hid (B1.out.trans (h2.mono B1.out.size))
  clear b1 B1 H1 h2 HX HE
  go_upto_region 2 with (first | (with_reducible apply alA tSe) | ((with_reducible apply stA tSe); rfl; rfl; exact Blk.new _ _ _))
  generalize hw3 : World.setRow _ _ _ = w3
  obtain ⟨g7, hg7⟩ : ∃ n, n = w2.heap.size := ⟨_, rfl⟩
  have h3 : Below w2.heap.size w2 w3 := by rw [← hw3]; exact below_setRow ((Below.refl _ _).alloc (Nat.le_refl _) _) (Nat.le_refl _) _
  have a3 := hid (show Blk w3 g7 32 (ar 64 X) by rw [← hw3, hg7]; exact (Blk.new w2 _ _).setRow_same _)
  have b3 := hid (b2.out.below h3 b2.out.lt)
  have B3 := hid (B2.out.trans (h3.mono B2.out.size))
  rw [← hg7]
  clear hw3 hg7 h3 b2 B2
  refine wp_region_fixed (C := fun w' => Below w3.heap.size w3 w') 7 (Below.refl _ _) ?_
  simp only [List.take_succ_cons, List.take_zero, List.drop_succ_cons, List.drop_zero]
  by_cases he : E = 0
  · have te : (E == 0) = true := by simp [he]
    have hq : q = eqA 64 X x := by rw [HQ.out]; simp [he]
    clear he HQ
    subst hq
    apply wpK_val
    · rfl
    · intro w' hw'
      go_simp
      first | exact rfl | exact ⟨rfl, hw'⟩
    simp only [Act.put, List.setIfInBounds_toArray, List.set_cons_succ, List.set_cons_zero]
    apply wpK_val
    · rfl
    · intro w' hw'
      go_simp
      first | exact rfl | exact ⟨rfl, hw'⟩
    simp only [Act.put, List.setIfInBounds_toArray, List.set_cons_succ, List.set_cons_zero]
    apply wpK_val
    · rfl
    · intro w' hw'
      go_simp
      first | exact rfl | exact ⟨rfl, hw'⟩
    simp only [Act.put, List.setIfInBounds_toArray, List.set_cons_succ, List.set_cons_zero]
    apply kldA tSe
    · rfl
    · rfl
    · exact fun w' hw' => (a3.out.below hw' a3.out.lt).head
    simp only [Act.put, List.setIfInBounds_toArray, List.set_cons_succ, List.set_cons_zero]
    apply kldA tSe
    · rfl
    · rfl
    · exact fun w' hw' => (b3.out.below hw' b3.out.lt).head
    simp only [Act.put, List.setIfInBounds_toArray, List.set_cons_succ, List.set_cons_zero]
    apply keqU (eqA 64 X x) uSe eqg_se
    · rfl
    · rfl
    · rfl
    · exact rfl
    simp only [Act.put, List.setIfInBounds_toArray, List.set_cons_succ, List.set_cons_zero]
    apply wpK_val
    · rfl
    · intro w' hw'
      go_simp
      first | exact rfl | exact ⟨rfl, hw'⟩
    simp only [Act.put, List.setIfInBounds_toArray, List.set_cons_succ, List.set_cons_zero]
    apply wpK_nil
    intro w4 h4
    have hb := B3.out.trans (h4.mono B3.out.size)
    clear h4
    go_wp2_with fail
    refine bodyPost_ret (results_tmp (t := 6) rfl _ _ _) rfl ?_
    exact ⟨rfl, hb⟩
  · have te : (E == 0) = false := by simp [he]
    have hq : q = false := by rw [HQ.out]; simp [he]
    clear he HQ
    subst hq
    apply wpK_val
    · rfl
    · intro w' hw'
      go_simp
      first | exact rfl | exact ⟨rfl, hw'⟩
    simp only [Act.put, List.setIfInBounds_toArray, List.set_cons_succ, List.set_cons_zero]
    apply wpK_val
    · rfl
    · intro w' hw'
      go_simp
      first | exact rfl | exact ⟨rfl, hw'⟩
    simp only [Act.put, List.setIfInBounds_toArray, List.set_cons_succ, List.set_cons_zero]
    apply wpK_val
    · rfl
    · intro w' hw'
      go_simp
      first | exact rfl | exact ⟨rfl, hw'⟩
    simp only [Act.put, List.setIfInBounds_toArray, List.set_cons_succ, List.set_cons_zero]
    apply wpK_not
    · rfl
    simp only [Act.put, List.setIfInBounds_toArray, List.set_cons_succ, List.set_cons_zero]
    apply wpK_not
    · rfl
    simp only [Act.put, List.setIfInBounds_toArray, List.set_cons_succ, List.set_cons_zero]
    apply wpK_not
    · rfl
    simp only [Act.put, List.setIfInBounds_toArray, List.set_cons_succ, List.set_cons_zero]
    apply wpK_val
    · rfl
    · intro w' hw'
      go_simp
      first | exact rfl | exact ⟨rfl, hw'⟩
    simp only [Act.put, List.setIfInBounds_toArray, List.set_cons_succ, List.set_cons_zero]
    apply wpK_nil
    intro w4 h4
    have hb := B3.out.trans (h4.mono B3.out.size)
    clear h4
    go_wp2_with fail
    refine bodyPost_ret (results_tmp (t := 6) rfl _ _ _) rfl ?_
    exact ⟨rfl, hb⟩
end MbP
end Go.Proofs.Yteglhalninlapaa
set_option maxRecDepth 100000
namespace Go.Proofs.Yteglhalninlapaa
open Go.ChangeShapes Go.WideShapes Go.ChangeAt Go.RowKit
attribute [local go_sem] Gives
section
variable {P : Program} {ops : Array Oper} {C : World → Prop} {Q : Exit → Act → World → Prop} {a : Act} {w : World} {l rest : List Oper} {o : Oper} {v : Value} {R : World → Prop}
theorem wpK_at (n : Nat) (hC : C w) (h : wpK P ops C (fun a' => ∀ w', C w' → wpList P ops Q (l.drop n) a' w') (l.take n) a) : wpList P ops Q l a w := by
  have := wpK_list _ _ _ h hC
  rwa [List.take_append_drop] at this
theorem wpL_val (hw : Region.wanted o (yielded ops a.tmps) = true) (hg : Gives P o a w v R) (h : ∀ w', R w' → wpList P ops Q rest (a.put o.dst v) w') : wpList P ops Q (o :: rest) a w := by
  rw [wpList, if_pos hw]
  exact .inl (wp_of_gives hg h)
end
namespace MbP
open MbM
def f1 : Nat → Nat := fun _ => 1
theorem aw_1 : rdE (wrT (made 4) 1 f1) 1 = 0 ∧ rdS (wrT (made 4) 1 f1) 1 = f1 ∧ lkE (wrT (made 4) 1 f1) 1 = 0 ∧ lkS (wrT (made 4) 1 f1) 1 = zero ∧ (wrT (made 4) 1 f1).log.length = 1 ∧ rdE (made 4) 1 = 0 := ⟨rfl, rfl, rfl, rfl, rfl, rfl⟩
theorem aw_2 : rdE (crash (wrT (made 4) 1 f1) []) 1 = 0 ∧ rdS (crash (wrT (made 4) 1 f1) []) 1 = zero := ⟨rfl, rfl⟩
theorem sees_1 : sees (wrT (made 4) 1 f1) 1 f1 = true := by
  unfold sees
  rw [aw_1.1, aw_1.2.1]
  rw [Bool.and_eq_true]
  exact ⟨rfl, eqA_yes fun _ _ => rfl⟩
theorem sees_2 : sees (crash (wrT (made 4) 1 f1) []) 1 zero = true := by
  unfold sees
  rw [aw_2.1, aw_2.2]
  rw [Bool.and_eq_true]
  exact ⟨rfl, eqA_yes fun _ _ => rfl⟩
theorem f1_lt (j : Nat) : f1 j < 256 := by unfold f1; omega
theorem arg_nil (w : World) : Arg w none [] 0 0 := ⟨rfl, Nat.le_refl _, Nat.zero_le _, (fun x hx => by cases hx), fun _ => ⟨rfl, rfl⟩, Byt.none rfl⟩
theorem built_se (w : World) : (Instr.build 32 #[]).run Try.prog w = .ok (.agg (ar 64 zero)) w :=
  run_build w _ _ _ (by kernel_rfl)
set_option maxHeartbeats 800000 in
set_option maxRecDepth 100000 in
theorem awake_any {rep : RepT} (hC : MemC rep) (w : World) :
    Calls Try.prog 9 #[] w fun e w' => e = .returned (.bool true) ∧ Below w.heap.size w w' := by
  go_enter Try.func9, Try.ntmps9
  go_wp2_with fail
  refine (hC.new 4 (by omega) (by omega) w).mono ?_
  rintro e w1 ⟨m, M, I, rfl, hr, hMI, h1⟩
  have P := hid (show P1 rep w.heap.size w1 m M I 0 (made 4) from ⟨hr, made_ok 4, hMI, h1.size⟩)
  have B1 := hid h1
  clear hr hMI h1
  unfold at'
  go_wp2_with fail
  refine (full_any 1 (by omega) w1).mono ?_
  rintro e w2 ⟨rfl, h2⟩
  have P2 := hid (P.out.below hC h2)
  have B2 := hid (B1.out.trans (h2.mono B1.out.size))
  clear P B1 h2
  go_wp2_with fail
  refine (hC.write P2.out.prog P2.out.ok (by omega) 1 f1 f1_lt).mono ?_
  rintro e w3 ⟨rfl, ho⟩
  rw [aw_1.2.2.2.2.2]
  obtain ⟨M3, I3, p3, g3⟩ := P2.out.out ho (wr_ok P2.out.ok 1 f1_lt)
  have P3 := hid p3
  have B3 := hid (B2.out.trans (P2.out.went g3))
  clear ho p3 g3 P2 B2
  go_wp2_with fail
  refine (hC.look P3.out.prog P3.out.ok (by omega) 1).mono ?_
  rintro e w4 ⟨rfl, h4⟩
  rw [aw_1.2.2.1, aw_1.2.2.2.1]
  have P4 := hid (P3.out.below hC h4)
  have B4 := hid (B3.out.trans (h4.mono B3.out.size))
  clear P3 B3 h4
  go_upto_region 6 with (first | (with_reducible apply alA tSe) | ((with_reducible apply stA tSe); rfl; rfl; exact Blk.new _ _ _))
  generalize hw5 : World.setRow _ _ _ = w5
  obtain ⟨g4, hg4⟩ : ∃ n, n = w4.heap.size := ⟨_, rfl⟩
  have h5 : Below w4.heap.size w4 w5 := by rw [← hw5]; exact below_setRow ((Below.refl _ _).alloc (Nat.le_refl _) _) (Nat.le_refl _) _
  have a5 := hid (show Blk w5 g4 32 (ar 64 zero) by rw [← hw5, hg4]; exact (Blk.new w4 _ _).setRow_same _)
  have P5 := hid (P4.out.below hC h5)
  have B5 := hid (B4.out.trans (h5.mono B4.out.size))
  rw [← hg4]
  clear hw5 hg4 h5 P4 B4
  refine wp_region_fixed (C := fun w' => Below w5.heap.size w5 w') 23 (Below.refl _ _) ?_
  simp only [List.take_succ_cons, List.take_zero, List.drop_succ_cons, List.drop_zero]
  apply wpK_val
  · rfl
  · intro w' hw'
    go_simp
    first | exact rfl | exact ⟨rfl, hw'⟩
  simp only [Act.put, List.setIfInBounds_toArray, List.set_cons_succ, List.set_cons_zero]
  apply wpK_val
  · rfl
  · intro w' hw'
    go_simp
    first | exact rfl | exact ⟨rfl, hw'⟩
  simp only [Act.put, List.setIfInBounds_toArray, List.set_cons_succ, List.set_cons_zero]
  apply wpK_val
  · rfl
  · intro w' hw'
    go_simp
    first | exact rfl | exact ⟨rfl, hw'⟩
  simp only [Act.put, List.setIfInBounds_toArray, List.set_cons_succ, List.set_cons_zero]
  apply wpK_val
  · rfl
  · intro w' hw'
    go_simp
    first | exact rfl | exact ⟨rfl, hw'⟩
  simp only [Act.put, List.setIfInBounds_toArray, List.set_cons_succ, List.set_cons_zero]
  apply wpK_val
  · rfl
  · intro w' hw'
    go_simp
    first | exact rfl | exact ⟨rfl, hw'⟩
  simp only [Act.put, List.setIfInBounds_toArray, List.set_cons_succ, List.set_cons_zero]
  apply wpK_val
  · rfl
  · intro w' hw'
    go_simp
    first | exact rfl | exact ⟨rfl, hw'⟩
  simp only [Act.put, List.setIfInBounds_toArray, List.set_cons_succ, List.set_cons_zero]
  apply wpK_val
  · rfl
  · intro w' hw'
    go_simp
    first | exact rfl | exact ⟨rfl, hw'⟩
  simp only [Act.put, List.setIfInBounds_toArray, List.set_cons_succ, List.set_cons_zero]
  apply wpK_val
  · rfl
  · intro w' hw'
    go_simp
    first | exact rfl | exact ⟨rfl, hw'⟩
  simp only [Act.put, List.setIfInBounds_toArray, List.set_cons_succ, List.set_cons_zero]
  apply wpK_val
  · rfl
  · intro w' hw'
    go_simp
    exact (full_any 1 (by omega) w').mono fun e w2 h => ⟨h.1, hw'.trans (h.2.mono hw'.size)⟩
  simp only [Act.put, List.setIfInBounds_toArray, List.set_cons_succ, List.set_cons_zero]
  apply wpK_val
  · rfl
  · intro w' hw'
    go_simp
    exact (show Calls Try.prog _ _ w' fun e w2 => e = .returned (.bool true) ∧ Below w5.heap.size w5 w2 from (reads_any hC m 1 M3 I3 _ 1 f1 (by omega) w' (P5.out.below hC hw').prog P5.out.ok).mono fun e w2 h => ⟨by rw [← sees_1]; exact h.1, hw'.trans (h.2.mono hw'.size)⟩)
  simp only [Act.put, List.setIfInBounds_toArray, List.set_cons_succ, List.set_cons_zero]
  apply wpK_val
  · rfl
  · intro w' hw'
    go_simp
    first | exact rfl | exact ⟨rfl, hw'⟩
  simp only [Act.put, List.setIfInBounds_toArray, List.set_cons_succ, List.set_cons_zero]
  apply wpK_val
  · rfl
  · intro w' hw'
    go_simp
    first | exact rfl | exact ⟨rfl, hw'⟩
  simp only [Act.put, List.setIfInBounds_toArray, List.set_cons_succ, List.set_cons_zero]
  apply kldA tSe
  · rfl
  · rfl
  · exact fun w' hw' => (a5.out.below hw' a5.out.lt).head
  simp only [Act.put, List.setIfInBounds_toArray, List.set_cons_succ, List.set_cons_zero]
  apply kbldZ (hb := built_se)
  · rfl
  simp only [Act.put, List.setIfInBounds_toArray, List.set_cons_succ, List.set_cons_zero]
  apply keqU true uSe eqg_se
  · rfl
  · rfl
  · rfl
  · exact eqA_yes fun _ _ => rfl
  simp only [Act.put, List.setIfInBounds_toArray, List.set_cons_succ, List.set_cons_zero]
  apply wpK_val
  · rfl
  · intro w' hw'
    go_simp
    first | exact rfl | exact ⟨rfl, hw'⟩
  simp only [Act.put, List.setIfInBounds_toArray, List.set_cons_succ, List.set_cons_zero]
  apply wpK_val
  · rfl
  · intro w' hw'
    go_simp
    first | exact rfl | exact ⟨rfl, hw'⟩
  simp only [Act.put, List.setIfInBounds_toArray, List.set_cons_succ, List.set_cons_zero]
  apply wpK_val
  · rfl
  · intro w' hw'
    go_simp
    first | exact rfl | exact ⟨rfl, hw'⟩
  simp only [Act.put, List.setIfInBounds_toArray, List.set_cons_succ, List.set_cons_zero]
  apply wpK_val
  · rfl
  · intro w' hw'
    go_simp
    exact (show Calls Try.prog _ _ w' fun e w2 => e = .returned (.int .i64 1) ∧ Below w5.heap.size w5 w2 from (hC.unflushed (P5.out.below hC hw').prog).mono fun e w2 h => ⟨by rw [aw_1.2.2.2.2.1] at h; exact h.1, hw'.trans (h.2.mono hw'.size)⟩)
  simp only [Act.put, List.setIfInBounds_toArray, List.set_cons_succ, List.set_cons_zero]
  apply wpK_val
  · rfl
  · intro w' hw'
    go_simp
    first | exact rfl | exact ⟨rfl, hw'⟩
  simp only [Act.put, List.setIfInBounds_toArray, List.set_cons_succ, List.set_cons_zero]
  apply wpK_val
  · rfl
  · intro w' hw'
    go_simp
    first | exact rfl | exact ⟨rfl, hw'⟩
  simp only [Act.put, List.setIfInBounds_toArray, List.set_cons_succ, List.set_cons_zero]
  apply wpK_val
  · rfl
  · intro w' hw'
    go_simp
    first | exact rfl | exact ⟨rfl, hw'⟩
  simp only [Act.put, List.setIfInBounds_toArray, List.set_cons_succ, List.set_cons_zero]
  apply wpK_val
  · rfl
  · intro w' hw'
    go_simp
    first | exact rfl | exact ⟨rfl, hw'⟩
  simp only [Act.put, List.setIfInBounds_toArray, List.set_cons_succ, List.set_cons_zero]
  apply wpK_nil
  intro w6 h6
  have P6 := hid (P5.out.below hC h6)
  have B6 := hid (B5.out.trans (h6.mono B5.out.size))
  clear h6 P5 B5
  refine wpL_val (v := .int .i64 0) (R := outP rep w6 m M3 I3 2 (crash (wrT (made 4) 1 f1) [])) rfl ?_ ?_
  · go_simp
    exact (hC.crash P6.out.prog P6.out.ok (by omega) none [] 0 0 (arg_nil w6) (fun _ _ _ e => by cases e)).mono fun e w2 h => h
  intro w7 ho
  obtain ⟨M7, I7, p7, g7⟩ := P6.out.out ho (cr_ok P6.out.ok [])
  have P7 := hid p7
  have B7 := hid (B6.out.trans (P6.out.went g7))
  clear ho p7 g7 P6 B6
  simp only [Act.put, List.setIfInBounds_toArray, List.set_cons_succ, List.set_cons_zero]
  refine wpK_at (C := fun w' => Below w7.heap.size w7 w') 7 (Below.refl _ _) ?_
  simp only [List.take_succ_cons, List.take_zero, List.drop_succ_cons, List.drop_zero]
  apply wpK_val
  · rfl
  · intro w' hw'
    go_simp
    first | exact rfl | exact ⟨rfl, hw'⟩
  simp only [Act.put, List.setIfInBounds_toArray, List.set_cons_succ, List.set_cons_zero]
  apply wpK_val
  · rfl
  · intro w' hw'
    go_simp
    first | exact rfl | exact ⟨rfl, hw'⟩
  simp only [Act.put, List.setIfInBounds_toArray, List.set_cons_succ, List.set_cons_zero]
  apply wpK_val
  · rfl
  · intro w' hw'
    go_simp
    first | exact rfl | exact ⟨rfl, hw'⟩
  simp only [Act.put, List.setIfInBounds_toArray, List.set_cons_succ, List.set_cons_zero]
  apply wpK_val
  · rfl
  · intro w' hw'
    go_simp
    first | exact rfl | exact ⟨rfl, hw'⟩
  simp only [Act.put, List.setIfInBounds_toArray, List.set_cons_succ, List.set_cons_zero]
  apply kbldZ (hb := built_se)
  · rfl
  simp only [Act.put, List.setIfInBounds_toArray, List.set_cons_succ, List.set_cons_zero]
  apply wpK_val
  · rfl
  · intro w' hw'
    go_simp
    exact (show Calls Try.prog _ _ w' fun e w2 => e = .returned (.bool true) ∧ Below w7.heap.size w7 w2 from (reads_any hC m 2 M7 I7 _ 1 zero (by omega) w' (P7.out.below hC hw').prog P7.out.ok).mono fun e w2 h => ⟨by rw [← sees_2]; exact h.1, hw'.trans (h.2.mono hw'.size)⟩)
  simp only [Act.put, List.setIfInBounds_toArray, List.set_cons_succ, List.set_cons_zero]
  apply wpK_val
  · rfl
  · intro w' hw'
    go_simp
    first | exact rfl | exact ⟨rfl, hw'⟩
  simp only [Act.put, List.setIfInBounds_toArray, List.set_cons_succ, List.set_cons_zero]
  apply wpK_nil
  intro w8 h8
  have hb := B7.out.trans (h8.mono B7.out.size)
  clear h8
  go_wp2_with fail
  refine bodyPost_ret (results_tmp (t := 0) rfl _ _ _) rfl ?_
  exact ⟨rfl, hb⟩
end MbP
end Go.Proofs.Yteglhalninlapaa
set_option maxRecDepth 100000
namespace Go.Proofs.Yteglhalninlapaa
open Go.ChangeShapes Go.WideShapes Go.ChangeAt Go.RowKit
attribute [local go_sem] Gives
namespace MbP
open MbM
theorem rowAct : RowT 35 68 := ⟨by kernel_rfl, ⟨_, Try.underlying35, rfl⟩⟩
/-- Acts that come in; all of them stands below block B. -/
structure Acts (B : Nat) (w : World) (P : Option Addr) (l : List ActV) (n cap : Nat) : Prop where
  sli : Sli 68 actL (fun b => b < B) w P l n cap
  ok : ∀ a ∈ l, ActOk w B a
theorem Acts.on {B n cap : Nat} {w w' : World} {P : Option Addr} {l : List ActV} (h : Acts B w P l n cap) (hb : Below B w w') : Acts B w' P l n cap :=
  ⟨h.sli.turn (Turn.of_below hb) fun b hb _ => by omega, fun a ha => (h.ok a ha).turn (Turn.of_below hb) fun b hb => hb⟩
theorem actA_list (a : ActV) : (actA a).toList = actL a := by unfold actA; rw [List.toList_toArray]
theorem Acts.at' {B n cap j : Nat} {w : World} {P : Option Addr} {l : List ActV} (h : Acts B w P l n cap) (hj : j < n) : ∃ a b o, a ∈ l ∧ P = some ⟨b, o, none⟩ ∧ b < B ∧ w.rangeAt b (o + j * 68) (actA a).toList ∧ w.cell? ⟨b, o + j * 68 + 1, none⟩ = some (.int .i64 a.i) ∧ ActOk w B a ∧ l[j]? = some a := by
  obtain ⟨a, ha⟩ : ∃ a, l[j]? = some a := ⟨_, List.getElem?_eq_getElem (by rw [h.sli.len]; exact hj)⟩
  obtain ⟨b, o, e, hS, _, hr⟩ := h.sli.some ha
  have hm := List.mem_of_getElem? ha
  refine ⟨a, b, o, hm, e, hS, ?_, hr 1 _ rfl, h.ok a hm, ha⟩
  rw [actA_list]; exact hr
set_option maxHeartbeats 1000000 in
set_option maxRecDepth 100000 in
theorem plays_law {rep : RepT} (hC : MemC rep) (n : Int) (P : Option Addr) (l : List ActV) (ln cap : Nat) (i0 : Int) (W : World) (h : Acts W.heap.size W P l ln cap) :
    Calls Try.prog 3 #[.int .i64 n, .slice P ln cap, .int .i64 i0] W fun e w' => e = .returned (.bool true) ∧ Below W.heap.size W w' := by
  have H := hid h
  clear h
  go_enter Try.func3, Try.ntmps3
  by_cases hl : 60 < ln
  · have t1 : (60 : Int) < ln := by omega
    go_wp2_with fail
    refine (awake_any hC W).mono ?_
    rintro e w1 ⟨rfl, h1⟩
    go_wp2_with fail
    refine bodyPost_ret (results_tmp (t := 6) rfl _ _ _) rfl ?_
    exact ⟨rfl, h1⟩
  · have t1 : decide ((60 : Int) < ln) = false := by simp; omega
    have hl6 : ln ≤ 60 := by omega
    clear hl
    by_cases hn : 1 ≤ n ∧ n ≤ 65536
    · have t2 : decide (n < 1) = false := by simp; omega
      have t3 : decide (65536 < n) = false := by simp; omega
      go_wp2_with fail
      refine (hC.new n hn.1 hn.2 W).mono ?_
      rintro e w1 ⟨m, M, I, rfl, hr, hMI, h1⟩
      have P1' := hid hr
      have Q1 := hid hMI
      have B1 := hid h1
      clear hr hMI h1 hn
      unfold at'
      go_wp2_with fail
      refine (rs_made n w1).mono ?_
      rintro e w2 ⟨rfl, hs, h2⟩
      obtain ⟨g, hg⟩ : ∃ g, g = w1.heap.size := ⟨_, rfl⟩
      rw [← hg] at hs
      unfold at'
      rw [← hg]
      have J := hid (show J2 rep W.heap.size w2 m M I 0 (made n) g (fun _ => False) 0 (made n) from ⟨hC.frame P1'.out (Turn.of_below h2) fun b hb e => by have := hC.lt P1'.out b hb; omega, hs, made_ok n, fun b hb e => by
        rcases e with e | e
        · have := hC.lt P1'.out b hb; omega
        · exact e, fun b hb => by
        rcases hb with e | e | e | e
        · exact Q1.out b (.inl e)
        · exact Q1.out b (.inr e)
        · exact e.elim
        · rw [e, hg]; exact B1.out.size, Nat.le_trans B1.out.size h2.size⟩)
      have B2 := hid (B1.out.trans (h2.mono B1.out.size))
      clear P1' Q1 B1 hs h2 hg t2 t3
      generalize made n = s0 at J
      go_wp2_with fail
      go_loopw [10] (fun i wr => ∃ (j : Nat) (M I L : Nat → Prop) (st : St), j ≤ ln ∧ i = .int .i64 j ∧ Hid (J2 rep W.heap.size wr m M I j st g L j st) ∧ Hid (Below W.heap.size W wr)) (fun i _ => 60 - (intOf i).toNat)
      case atStart => exact ⟨0, M, I, _, s0, Nat.zero_le _, rfl, J, B2⟩
      case round =>
        clear J B2
        obtain ⟨j, M, I, L, st, hj, rfl, J, B⟩ := hrel
        by_cases hlt : j < ln
        · have tj : (j : Int) < ln := by omega
          have tw : IntKind.i64.wrap ((j : Int) + 1) = (j : Int) + 1 := IntWalk.i64_in _ (by omega)
          obtain ⟨a, b, o, _, e, hb, hr, hc, hok, _⟩ := (H.out.on B.out).at' hlt
          subst e
          have hr' := hid hr
          have HO := hid hok
          clear hr hok
          go_wp2_with ((with_reducible apply ldR (cs := actA a) (by rw [actA_size]; exact rowAct)); rfl; exact hr'.out)
          refine (do_any hC W.heap.size m j g j M I L st a (by omega) (by omega) wr J.out HO.out).mono ?_
          rintro e w3 ⟨rfl, M3, I3, L3, j3, g3⟩
          have J3 := hid j3
          have h3 := J.out.from' (T := fun b => M b ∨ b = g) (fun _ e => e)
          have hb3 : Below W.heap.size wr w3 := g3.2.2.2.below J.out.base h3
          have B3 := hid (B.out.trans hb3)
          have hc3 := (hb3.cell (p := ⟨b, o + j * 68 + 1, none⟩) hb).trans hc
          clear j3 g3 h3 hb3 hc J B hr' HO
          go_wp2_with fail
          refine (looks_any hC _ m _ g _ M3 I3 L3 _ a.i (by omega) w3 J3.out).mono ?_
          rintro e w4 ⟨rfl, h4⟩
          have J4 := hid (J3.out.below hC h4)
          have B4 := hid (B3.out.trans (h4.mono B3.out.size))
          clear J3 B3 h4 hc3
          go_wp2_with fail
          refine (looks_any hC _ m _ g _ M3 I3 L3 _ i0 (by omega) w4 J4.out).mono ?_
          rintro e w5 ⟨rfl, h5⟩
          have J5 := hid (J4.out.below hC h5)
          have B5 := hid (B4.out.trans (h5.mono B4.out.size))
          clear J4 B4 h5
          go_wp2_with fail
          refine (looks_any hC _ m _ g _ M3 I3 L3 _ 0 (by omega) w5 J5.out).mono ?_
          rintro e w6 ⟨rfl, h6⟩
          have J6 := hid (J5.out.below hC h6)
          have B6 := hid (B5.out.trans (h6.mono B5.out.size))
          clear J5 B5 h6
          go_wp2_with fail
          refine (looks_any hC _ m _ g _ M3 I3 L3 _ 1 (by omega) w6 J6.out).mono ?_
          rintro e w7 ⟨rfl, h7⟩
          have J7 := hid (J6.out.below hC h7)
          have B7 := hid (B6.out.trans (h7.mono B6.out.size))
          clear J6 B6 h7
          go_wp2_with fail
          go_roundw
          case rel => exact ⟨j + 1, M3, I3, L3, _, by omega, by go_num, J7, B7⟩
          case measure => simp [intOf]; omega
        · have tj : decide ((j : Int) < ln) = false := by simp; omega
          have tk : ¬ j < ln := hlt
          have td : decide (j < ln) = false := by simp; omega
          go_wp2_with fail
          refine (awake_any hC wr).mono ?_
          rintro e w3 ⟨rfl, h3⟩
          have hb := B.out.trans (h3.mono B.out.size)
          go_wp2_with fail
          refine bodyPost_ret (results_tmp (t := 6) rfl _ _ _) rfl ?_
          exact ⟨rfl, hb⟩
    · have hb := hC.bad n hn W
      by_cases hn1 : n < 1
      · go_wp2_with fail
        refine hb.mono ?_
        rintro e w1 ⟨rfl, h1⟩
        go_wp2_with fail
        refine (awake_any hC w1).mono ?_
        rintro e w2 ⟨rfl, h2⟩
        have h3 := h1.trans (h2.mono h1.size)
        go_wp2_with fail
        refine bodyPost_ret (results_tmp (t := 6) rfl _ _ _) rfl ?_
        exact ⟨rfl, h3⟩
      · have t2 : decide (n < 1) = false := by simp; omega
        have t3 : 65536 < n := by omega
        go_wp2_with fail
        refine hb.mono ?_
        rintro e w1 ⟨rfl, h1⟩
        go_wp2_with fail
        refine (awake_any hC w1).mono ?_
        rintro e w2 ⟨rfl, h2⟩
        have h3 := h1.trans (h2.mono h1.size)
        go_wp2_with fail
        refine bodyPost_ret (results_tmp (t := 6) rfl _ _ _) rfl ?_
        exact ⟨rfl, h3⟩
end MbP
end Go.Proofs.Yteglhalninlapaa
set_option maxRecDepth 100000
namespace Go.Proofs.Yteglhalninlapaa
open Go.ChangeShapes Go.WideShapes Go.ChangeAt Go.RowKit
attribute [local go_sem] Gives
namespace MbP
open MbM
set_option maxHeartbeats 1000000 in
set_option maxRecDepth 100000 in
theorem copies_law {rep : RepT} (hC : MemC rep) (P : Option Addr) (l : List ActV) (ln cap : Nat) (P2 : Option Addr) (l2 : List ActV) (ln2 cap2 : Nat) (W : World) (h : Acts W.heap.size W P l ln cap) (h2 : Acts W.heap.size W P2 l2 ln2 cap2) :
    Calls Try.prog 4 #[.slice P ln cap, .slice P2 ln2 cap2] W fun e w' => e = .returned (.bool true) ∧ Below W.heap.size W w' := by
  have H := hid h
  have H2 := hid h2
  clear h h2
  go_enter Try.func4, Try.ntmps4
  by_cases hl : 40 < ln
  · have t1 : (40 : Int) < ln := by omega
    go_wp2_with fail
    refine (awake_any hC W).mono ?_
    rintro e w1 ⟨rfl, h1⟩
    go_wp2_with fail
    refine bodyPost_ret (results_tmp (t := 4) rfl _ _ _) rfl ?_
    exact ⟨rfl, h1⟩
  have t1 : decide ((40 : Int) < ln) = false := by simp; omega
  by_cases hl2 : 20 < ln2
  · have t2 : (20 : Int) < ln2 := by omega
    go_wp2_with fail
    refine (awake_any hC W).mono ?_
    rintro e w1 ⟨rfl, h1⟩
    go_wp2_with fail
    refine bodyPost_ret (results_tmp (t := 4) rfl _ _ _) rfl ?_
    exact ⟨rfl, h1⟩
  have t2 : decide ((20 : Int) < ln2) = false := by simp; omega
  have hl4 : ln ≤ 40 := by omega
  have hl5 : ln2 ≤ 20 := by omega
  clear hl hl2
  go_wp2_with fail
  refine (hC.new 6 (by omega) (by omega) W).mono ?_
  rintro e w1 ⟨m, M, I, rfl, hr, hMI, h1⟩
  have P1' := hid hr
  have Q1 := hid hMI
  have B1 := hid h1
  clear hr hMI h1
  unfold at'
  go_wp2_with fail
  refine (rs_made 6 w1).mono ?_
  rintro e w2 ⟨rfl, hs, h2⟩
  obtain ⟨g, hg⟩ : ∃ g, g = w1.heap.size := ⟨_, rfl⟩
  rw [← hg] at hs
  unfold at'
  rw [← hg]
  have J := hid (show J2 rep W.heap.size w2 m M I 0 (made 6) g (fun _ => False) 0 (made 6) from ⟨hC.frame P1'.out (Turn.of_below h2) fun b hb e => by have := hC.lt P1'.out b hb; omega, hs, made_ok 6, fun b hb e => by
    rcases e with e | e
    · have := hC.lt P1'.out b hb; omega
    · exact e, fun b hb => by
    rcases hb with e | e | e | e
    · exact Q1.out b (.inl e)
    · exact Q1.out b (.inr e)
    · exact e.elim
    · rw [e, hg]; exact B1.out.size, Nat.le_trans B1.out.size h2.size⟩)
  have B2 := hid (B1.out.trans (h2.mono B1.out.size))
  clear P1' Q1 B1 hs h2 hg t1 t2
  generalize made 6 = s0 at J
  go_wp2_with fail
  go_loopw [8] (fun i wr => ∃ (j : Nat) (M I L : Nat → Prop) (st : St), j ≤ ln ∧ i = .int .i64 j ∧ Hid (J2 rep W.heap.size wr m M I j st g L j st) ∧ Hid (Below W.heap.size W wr)) (fun i _ => 60 - (intOf i).toNat)
  case atStart => exact ⟨0, M, I, _, s0, Nat.zero_le _, rfl, J, B2⟩
  case round =>
    clear J B2
    obtain ⟨j, M, I, L, st, hj, rfl, J, B⟩ := hrel
    by_cases hlt : j < ln
    · have tj : (j : Int) < ln := by omega
      have tw : IntKind.i64.wrap ((j : Int) + 1) = (j : Int) + 1 := IntWalk.i64_in _ (by omega)
      obtain ⟨a, b, o, _, e, hb, hr, hc, hok, _⟩ := (H.out.on B.out).at' hlt
      subst e
      have hr' := hid hr
      have HO := hid hok
      clear hr hok hc
      go_wp2_with ((with_reducible apply ldR (cs := actA a) (by rw [actA_size]; exact rowAct)); rfl; exact hr'.out)
      refine (do_any hC W.heap.size m j g j M I L st a (by omega) (by omega) wr J.out HO.out).mono ?_
      rintro e w3 ⟨rfl, M3, I3, L3, j3, g3⟩
      have J3 := hid j3
      have h3 := J.out.from' (T := fun b => M b ∨ b = g) (fun _ e => e)
      have B3 := hid (B.out.trans (g3.2.2.2.below J.out.base h3))
      clear j3 g3 h3 J B hr' HO
      go_wp2_with fail
      go_roundw
      case rel => exact ⟨j + 1, M3, I3, L3, _, by omega, by go_num, J3, B3⟩
      case measure => simp [intOf]; omega
    · have tj : decide ((j : Int) < ln) = false := by simp; omega
      have tk : ¬ j < ln := hlt
      have td : decide (j < ln) = false := by simp; omega
      obtain rfl : j = ln := by omega
      clear hj
      generalize hwx : wr = wx at *
      clear hwx
      go_wp2_with fail
      refine (hC.copy J.out.prog J.out.ok (by omega)).mono ?_
      rintro e w3 ⟨c, M3, I3, rfl, hr3, hM3, hI3, h3⟩
      have JA := J.out.below hC h3
      have R3 := hid hr3
      have M3' := hid hM3
      have I3' := hid hI3
      have B3 := hid h3
      have JA' := hid JA
      clear hr3 hM3 hI3 h3 JA tj tk td
      unfold at'
      go_wp2_with fail
      refine (rs_copy JA'.out.ref).mono ?_
      rintro e w4 ⟨rfl, hs4, _, h4⟩
      obtain ⟨gs, hgs⟩ : ∃ n, n = w3.heap.size := ⟨_, rfl⟩
      rw [← hgs] at hs4
      unfold at'
      rw [← hgs]
      have B4 := hid (B3.out.trans (h4.mono B3.out.size))
      have R4 := hC.frame R3.out (Turn.of_below h4) fun b hb e => by have := hC.lt R3.out b hb; omega
      have J4 := hid (show J2 rep W.heap.size w4 c M3 I3 j st gs L j st from ⟨R4, hs4, J.out.ok, fun b hb e => by
          have hlt3 := hC.lt R3.out b hb
          rcases e with e | e
          · omega
          · have hL := J.out.ref.lt.2 b e
            rcases hb with hb | hb
            · have := M3'.out b hb; omega
            · rcases I3'.out b hb with e2 | e2
              · exact J.out.apart b (.inr e2) (.inr e)
              · omega, fun b hb => by
          have hb0 := J.out.base
          have hs0 := B3.out.size
          rcases hb with e | e | e | e
          · exact Nat.le_trans hb0 (M3'.out b e)
          · rcases I3'.out b e with e2 | e2
            · exact J.out.low b (.inr (.inl e2))
            · exact Nat.le_trans hb0 e2
          · exact J.out.low b (.inr (.inr (.inl e)))
          · omega, Nat.le_trans J.out.base B4.out.size⟩)
      have N4 := hid (show ∀ b, M3 b ∨ b = gs → wx.heap.size ≤ b from fun b e => by
        have hs0 := B3.out.size
        rcases e with e | e
        · exact M3'.out b e
        · omega)
      clear R4 hs4 h4 B3 R3 M3' I3' JA' hgs
      go_wp2_with fail
      go_loopw [11] (fun i wr => ∃ (q : Nat) (N K E : Nat → Prop) (sv : St), q ≤ ln2 ∧ i = .int .i64 q ∧ Hid (J2 rep W.heap.size wr c N K (j + q) sv gs E (j + q) sv) ∧ Hid (∀ b, N b ∨ b = gs → wx.heap.size ≤ b) ∧ Hid (Below wx.heap.size wx wr)) (fun i _ => 60 - (intOf i).toNat)
      case atStart => exact ⟨0, M3, I3, L, st, Nat.zero_le _, rfl, J4, N4, B4⟩
      case round =>
        clear J4 N4 B4
        obtain ⟨q, N, K, E, sv, hq, rfl, JQ, NQ, BQ⟩ := hrel
        have BW := hid (B.out.trans (BQ.out.mono B.out.size))
        by_cases hlt2 : q < ln2
        · have tj : (q : Int) < ln2 := by omega
          have tw : IntKind.i64.wrap ((q : Int) + 1) = (q : Int) + 1 := IntWalk.i64_in _ (by omega)
          obtain ⟨a, b, o, _, e, hb, hr, hc, hok, _⟩ := (H2.out.on BW.out).at' hlt2
          subst e
          have hr' := hid hr
          have HO := hid hok
          clear hr hok hc
          go_wp2_with ((with_reducible apply ldR (cs := actA a) (by rw [actA_size]; exact rowAct)); rfl; exact hr'.out)
          refine (do_any hC W.heap.size c (j + q) gs (j + q) N K E sv a (by omega) (by omega) wr JQ.out HO.out).mono ?_
          rintro e w5 ⟨rfl, M5, I5, L5, j5, g5⟩
          have J5 := hid j5
          have N5 := hid (show ∀ b, M5 b ∨ b = gs → wx.heap.size ≤ b from fun b e => by
            rcases e with e | e
            · rcases g5.1 b e with e2 | e2
              · exact NQ.out b (.inl e2)
              · exact Nat.le_trans BQ.out.size e2
            · exact NQ.out b (.inr e))
          have B5 := hid (BQ.out.trans (g5.2.2.2.below BQ.out.size NQ.out))
          clear j5 g5 JQ NQ BQ BW hr' HO
          go_wp2_with fail
          go_roundw
          case rel => exact ⟨q + 1, M5, I5, L5, _, by omega, by go_num, J5, N5, B5⟩
          case measure => simp [intOf]; omega
        · have tj : decide ((q : Int) < ln2) = false := by simp; omega
          have tk : ¬ q < ln2 := hlt2
          have td : decide (q < ln2) = false := by simp; omega
          have JA := hid (J.out.below hC BQ.out)
          clear NQ BQ J
          generalize hwy : wr = wy at *
          clear hwy
          go_wp2_with fail
          go_loopw [12] (fun i wr => ∃ (p : Nat), p ≤ 6 ∧ i = .int .i64 p ∧ Hid (J2 rep W.heap.size wr m M I j st g L j st) ∧ Hid (J2 rep W.heap.size wr c N K (j + q) sv gs E (j + q) sv) ∧ Hid (Below W.heap.size W wr)) (fun i _ => 60 - (intOf i).toNat)
          case atStart => exact ⟨0, by omega, rfl, JA, JQ, BW⟩
          case round =>
            clear JA JQ BW
            obtain ⟨p, hp, rfl, JA, JQ, BW⟩ := hrel
            by_cases hlt3 : p < 6
            · have tw : IntKind.i64.wrap ((p : Int) + 1) = (p : Int) + 1 := IntWalk.i64_in _ (by omega)
              go_wp2_with fail
              refine (looks_any hC _ m _ g _ M I L _ p (by omega) wr JA.out).mono ?_
              rintro e w6 ⟨rfl, h6⟩
              have J6 := hid (JA.out.below hC h6)
              have Q6 := hid (JQ.out.below hC h6)
              have B6 := hid (BW.out.trans (h6.mono BW.out.size))
              clear JA JQ BW h6
              go_wp2_with fail
              refine (looks_any hC _ c _ gs _ N K E _ p (by omega) w6 Q6.out).mono ?_
              rintro e w7 ⟨rfl, h7⟩
              have J7 := hid (J6.out.below hC h7)
              have Q7 := hid (Q6.out.below hC h7)
              have B7 := hid (B6.out.trans (h7.mono B6.out.size))
              clear J6 Q6 B6 h7
              go_wp2_with fail
              go_roundw
              case rel => exact ⟨p + 1, by omega, by go_num, J7, Q7, B7⟩
              case measure => simp [intOf]; omega
            · go_wp2_with fail
              refine (awake_any hC wr).mono ?_
              rintro e w6 ⟨rfl, h6⟩
              have hb := BW.out.trans (h6.mono BW.out.size)
              go_wp2_with fail
              refine bodyPost_ret (results_tmp (t := 4) rfl _ _ _) rfl ?_
              exact ⟨rfl, hb⟩
end MbP
end Go.Proofs.Yteglhalninlapaa
set_option maxRecDepth 100000
namespace Go.Proofs.Yteglhalninlapaa
open Go.ChangeShapes Go.WideShapes Go.ChangeAt Go.RowKit
attribute [local go_sem] Gives
namespace MbP
open MbM
/-- What a call done to a member leaves. -/
def outW (rep : RepT) (B : Nat) (w : World) (m : Nat) (M I : Nat → Prop) (k : Nat) (st : St) (w' : World) : Prop :=
  ∃ M' I', P1 rep B w' m M' I' k st ∧ Went w M I w' M' I'
section
variable {rep : RepT} {B : Nat} {w w' w2 : World} {m : Nat} {M I : Nat → Prop} {k : Nat} {st st' : St}
theorem outW.of (hb : Below w.heap.size w w') (h : outW rep B w' m M I k st w2) : outW rep B w m M I k st w2 := by
  obtain ⟨M', I', h1, h2⟩ := h
  exact ⟨M', I', h1, (Went.below hb).trans h2⟩
end
/-- What an act of this kind leaves. -/
def doesK (st : St) (a : ActV) : Nat → St
  | 0 | 1 | 2 | 3 | 4 => wrT st a.i a.s
  | 5 => flT st
  | 6 => crash st a.picks
  | 7 => seT st a.i a.s
  | 11 => clean st
  | _ => st
def doesT (st : St) (a : ActV) : St := doesK st a (kindOf a.d)
set_option maxHeartbeats 800000 in
set_option maxRecDepth 100000 in
theorem does_any {rep : RepT} (hC : MemC rep) (B m k : Nat) (M I : Nat → Prop) (st : St) (a : ActV) (hk : k ≤ 1000) (w : World) (h : P1 rep B w m M I k st) (ha : ActOk w B a) :
    Calls Try.prog 32 #[at' m, .agg (actA a)] w fun e w' => e = .returned (.tuple #[]) ∧ outW rep B w m M I (k + 1) (doesT st a) w' := by
  have H := hid h
  have HA := hid ha
  have HK := hid hk
  clear h ha hk
  unfold at' doesT
  have kb := kind_bits a.d
  have kl := kind_le a.d
  generalize kindOf a.d = r at *
  go_enter Try.func32, Try.ntmps32
  go_upto_region 1 with fail
  generalize hw1 : World.alloc w _ = w1
  obtain ⟨g5, hg5⟩ : ∃ n, n = w.heap.size := ⟨_, rfl⟩
  have B5 := hid (show Blk w1 g5 35 (actA a) by rw [← hw1, hg5]; exact Blk.new w _ _)
  have h1 : Below w.heap.size w w1 := by rw [← hw1]; exact (Below.refl _ _).alloc (Nat.le_refl _) _
  have J1 := hid (H.out.below hC h1)
  have A1 := hid (HA.out.on h1)
  have BE := hid h1
  rw [← hg5]
  have p0 := (B5.out.cell 0).trans (act_0 a)
  have p1 := (B5.out.cell 1).trans (act_1 a)
  have p66 := (B5.out.cell 66).trans (act_66 a)
  have q2 := hid (act_row B5.out)
  clear hw1 hg5 h1 H HA
  obtain rfl | rfl | rfl | rfl | rfl | rfl | rfl | rfl | rfl | rfl | rfl | rfl | rfl | rfl | rfl | rfl : r = 0 ∨ r = 1 ∨ r = 2 ∨ r = 3 ∨ r = 4 ∨ r = 5 ∨ r = 6 ∨ r = 7 ∨ r = 8 ∨ r = 9 ∨ r = 10 ∨ r = 11 ∨ r = 12 ∨ r = 13 ∨ r = 14 ∨ r = 15 := by omega
  · have kb' : bits .and .i64 a.d 15 = 0 := kb
    clear kb kl
    go_wp2_with ((with_reducible apply ldAm tSe); rfl; exact q2.out)
    refine (hC.write J1.out.prog J1.out.ok HK.out a.i a.s A1.out.s).mono ?_
    rintro e w2 ⟨rfl, ho⟩
    have hf := hid (outW.of BE.out (J1.out.out ho (wr_ok J1.out.ok a.i A1.out.s)))
    clear ho
    go_wp2_with fail
    refine bodyPost_end (results_none rfl _ _ _) rfl ?_
    exact ⟨rfl, hf.out⟩
  · have kb' : bits .and .i64 a.d 15 = 1 := kb
    clear kb kl
    go_wp2_with ((with_reducible apply ldAm tSe); rfl; exact q2.out)
    refine (hC.write J1.out.prog J1.out.ok HK.out a.i a.s A1.out.s).mono ?_
    rintro e w2 ⟨rfl, ho⟩
    have hf := hid (outW.of BE.out (J1.out.out ho (wr_ok J1.out.ok a.i A1.out.s)))
    clear ho
    go_wp2_with fail
    refine bodyPost_end (results_none rfl _ _ _) rfl ?_
    exact ⟨rfl, hf.out⟩
  · have kb' : bits .and .i64 a.d 15 = 2 := kb
    clear kb kl
    go_wp2_with ((with_reducible apply ldAm tSe); rfl; exact q2.out)
    refine (hC.write J1.out.prog J1.out.ok HK.out a.i a.s A1.out.s).mono ?_
    rintro e w2 ⟨rfl, ho⟩
    have hf := hid (outW.of BE.out (J1.out.out ho (wr_ok J1.out.ok a.i A1.out.s)))
    clear ho
    go_wp2_with fail
    refine bodyPost_end (results_none rfl _ _ _) rfl ?_
    exact ⟨rfl, hf.out⟩
  · have kb' : bits .and .i64 a.d 15 = 3 := kb
    clear kb kl
    go_wp2_with ((with_reducible apply ldAm tSe); rfl; exact q2.out)
    refine (hC.write J1.out.prog J1.out.ok HK.out a.i a.s A1.out.s).mono ?_
    rintro e w2 ⟨rfl, ho⟩
    have hf := hid (outW.of BE.out (J1.out.out ho (wr_ok J1.out.ok a.i A1.out.s)))
    clear ho
    go_wp2_with fail
    refine bodyPost_end (results_none rfl _ _ _) rfl ?_
    exact ⟨rfl, hf.out⟩
  · have kb' : bits .and .i64 a.d 15 = 4 := kb
    clear kb kl
    go_wp2_with ((with_reducible apply ldAm tSe); rfl; exact q2.out)
    refine (hC.write J1.out.prog J1.out.ok HK.out a.i a.s A1.out.s).mono ?_
    rintro e w2 ⟨rfl, ho⟩
    have hf := hid (outW.of BE.out (J1.out.out ho (wr_ok J1.out.ok a.i A1.out.s)))
    clear ho
    go_wp2_with fail
    refine bodyPost_end (results_none rfl _ _ _) rfl ?_
    exact ⟨rfl, hf.out⟩
  · have kb' : bits .and .i64 a.d 15 = 5 := kb
    clear kb kl
    go_wp2_with fail
    refine (hC.flush J1.out.prog J1.out.ok HK.out).mono ?_
    rintro e w2 ⟨rfl, ho⟩
    have hf := hid (outW.of BE.out (J1.out.out ho (fl_ok J1.out.ok)))
    clear ho
    go_wp2_with fail
    refine bodyPost_end (results_none rfl _ _ _) rfl ?_
    exact ⟨rfl, hf.out⟩
  · have kb' : bits .and .i64 a.d 15 = 6 := kb
    clear kb kl
    go_wp2_with fail
    refine (hC.crash J1.out.prog J1.out.ok HK.out a.p a.picks a.pn a.pc A1.out.arg (fun b o hn e e2 => by have := A1.out.old b o hn e; have := J1.out.low b e2; omega)).mono ?_
    rintro e w2 ⟨rfl, ho⟩
    have hf := hid (outW.of BE.out (J1.out.out ho (cr_ok J1.out.ok a.picks)))
    clear ho
    go_wp2_with fail
    refine bodyPost_end (results_none rfl _ _ _) rfl ?_
    exact ⟨rfl, hf.out⟩
  · have kb' : bits .and .i64 a.d 15 = 7 := kb
    clear kb kl
    go_wp2_with ((with_reducible apply ldAm tSe); rfl; exact q2.out)
    refine (hC.set J1.out.prog J1.out.ok HK.out a.i a.s A1.out.s).mono ?_
    rintro e w2 ⟨rfl, ho⟩
    have hf := hid (outW.of BE.out (J1.out.out ho (se_ok J1.out.ok a.i A1.out.s)))
    clear ho
    go_wp2_with fail
    refine bodyPost_end (results_none rfl _ _ _) rfl ?_
    exact ⟨rfl, hf.out⟩
  · have kb' : bits .and .i64 a.d 15 = 8 := kb
    clear kb kl
    have hf := hid (outW.of BE.out (show outW rep B w1 m M I (k + 1) st w1 from ⟨M, I, J1.out.mono hC (Nat.le_succ k), Went.refl _ _ _⟩))
    go_wp2_with fail
    refine bodyPost_end (results_none rfl _ _ _) rfl ?_
    exact ⟨rfl, hf.out⟩
  · have kb' : bits .and .i64 a.d 15 = 9 := kb
    clear kb kl
    have hf := hid (outW.of BE.out (show outW rep B w1 m M I (k + 1) st w1 from ⟨M, I, J1.out.mono hC (Nat.le_succ k), Went.refl _ _ _⟩))
    go_wp2_with fail
    refine bodyPost_end (results_none rfl _ _ _) rfl ?_
    exact ⟨rfl, hf.out⟩
  · have kb' : bits .and .i64 a.d 15 = 10 := kb
    clear kb kl
    have hf := hid (outW.of BE.out (show outW rep B w1 m M I (k + 1) st w1 from ⟨M, I, J1.out.mono hC (Nat.le_succ k), Went.refl _ _ _⟩))
    go_wp2_with fail
    refine bodyPost_end (results_none rfl _ _ _) rfl ?_
    exact ⟨rfl, hf.out⟩
  · have kb' : bits .and .i64 a.d 15 = 11 := kb
    clear kb kl
    go_wp2_with fail
    refine (hC.clean J1.out.prog).mono ?_
    rintro e w2 ⟨rfl, ho⟩
    have hf := hid (outW.of BE.out (J1.out.out ho (cl_ok J1.out.ok)))
    clear ho
    go_wp2_with fail
    refine bodyPost_end (results_none rfl _ _ _) rfl ?_
    exact ⟨rfl, hf.out⟩
  · have kb' : bits .and .i64 a.d 15 = 12 := kb
    clear kb kl
    have hf := hid (outW.of BE.out (show outW rep B w1 m M I (k + 1) st w1 from ⟨M, I, J1.out.mono hC (Nat.le_succ k), Went.refl _ _ _⟩))
    go_wp2_with fail
    refine bodyPost_end (results_none rfl _ _ _) rfl ?_
    exact ⟨rfl, hf.out⟩
  · have kb' : bits .and .i64 a.d 15 = 13 := kb
    clear kb kl
    have hf := hid (outW.of BE.out (show outW rep B w1 m M I (k + 1) st w1 from ⟨M, I, J1.out.mono hC (Nat.le_succ k), Went.refl _ _ _⟩))
    go_wp2_with fail
    refine bodyPost_end (results_none rfl _ _ _) rfl ?_
    exact ⟨rfl, hf.out⟩
  · have kb' : bits .and .i64 a.d 15 = 14 := kb
    clear kb kl
    have hf := hid (outW.of BE.out (show outW rep B w1 m M I (k + 1) st w1 from ⟨M, I, J1.out.mono hC (Nat.le_succ k), Went.refl _ _ _⟩))
    go_wp2_with fail
    refine bodyPost_end (results_none rfl _ _ _) rfl ?_
    exact ⟨rfl, hf.out⟩
  · have kb' : bits .and .i64 a.d 15 = 15 := kb
    clear kb kl
    have hf := hid (outW.of BE.out (show outW rep B w1 m M I (k + 1) st w1 from ⟨M, I, J1.out.mono hC (Nat.le_succ k), Went.refl _ _ _⟩))
    go_wp2_with fail
    refine bodyPost_end (results_none rfl _ _ _) rfl ?_
    exact ⟨rfl, hf.out⟩
end MbP
end Go.Proofs.Yteglhalninlapaa
