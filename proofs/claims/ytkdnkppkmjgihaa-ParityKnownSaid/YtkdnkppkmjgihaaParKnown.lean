/-
  The walk of casematelaw02.ParityKnown.
-/
import Derived.Test.YtkdnkppkmjgihaaParTold
import Derived.Test.YtkdnkppkmjgihaaParChange
namespace Go.Proofs.Ytkdnkppkmjgihaa
open Go.ChangeShapes Go.WideShapes Go.ChangeAt Go.RowKit
attribute [local go_sem] Gives eqg_sec
attribute [local go_sem high] run_eql_sec run_neq_sec eq_nil zero_row run_eql_row
def lst (l : List (Nat → Nat)) : Nat → Nat → Nat := fun i => l.getD i fun _ => 0
def c0 : Nat → Nat := fun _ => 0
def c1 : Nat → Nat := fun _ => 1
def c2 : Nat → Nat := fun _ => 2
def c3 : Nat → Nat := fun _ => 3
def c5 : Nat → Nat := fun _ => 5
theorem lst_lt {l : List (Nat → Nat)} (h : ∀ f, f ∈ l → ∀ k, f k < 256) : ∀ i k, lst l i k < 256 := fun i k => by
  unfold lst
  rw [List.getD_eq_getElem?_getD]
  cases e : l[i]? with
  | none => show 0 < 256; omega
  | some f => exact h f (List.mem_of_getElem? e) k
theorem c_lt : ∀ f, f ∈ [c0, c1, c2, c3, c5] → ∀ k, f k < 256 := by
  intro f hf k
  simp at hf
  rcases hf with rfl | rfl | rfl | rfl | rfl
  all_goals
    first
    | exact (by decide : (0 : Nat) < 256)
    | exact (by decide : (1 : Nat) < 256)
    | exact (by decide : (2 : Nat) < 256)
    | exact (by decide : (3 : Nat) < 256)
    | exact (by decide : (5 : Nat) < 256)
theorem k_lt (l : List (Nat → Nat)) (h : ∀ f, f ∈ l → f ∈ [c0, c1, c2, c3, c5]) : ∀ i k, lst l i k < 256 := lst_lt fun f hf => c_lt f (h f hf)
theorem P2 : PP (lst [c1, c2]) 2 = c3 := by funext k; show (0 ^^^ 1) ^^^ 2 = 3; decide
theorem Q2 : QQ (lst [c1, c2]) 2 = c5 := by funext k; show (0 ^^^ GfM.mul (GfM.pw 0) 1) ^^^ GfM.mul (GfM.pw 1) 2 = 5; decide +kernel
theorem P1 : PP (lst [c1]) 1 = c1 := by funext k; show 0 ^^^ 1 = 1; decide
theorem Q1 : QQ (lst [c1]) 1 = c1 := by funext k; show 0 ^^^ GfM.mul (GfM.pw 0) 1 = 1; decide +kernel
theorem P3 : PP (lst [c1, c2, c1]) 3 = c2 := by funext k; show ((0 ^^^ 1) ^^^ 2) ^^^ 1 = 2; decide
theorem Q3 : QQ (lst [c1, c2, c1]) 3 = c1 := by funext k; show ((0 ^^^ GfM.mul (GfM.pw 0) 1) ^^^ GfM.mul (GfM.pw 1) 2) ^^^ GfM.mul (GfM.pw 2) 1 = 1; decide +kernel
theorem row2 : ∀ i, i < 4 → rowF 2 (lst [c1, c2]) i = lst [c1, c2, c3, c5] i := fun i hi => by
  match i, hi with
  | 0, _ => rfl
  | 1, _ => rfl
  | 2, _ => exact P2
  | 3, _ => exact Q2
section
variable {ops : Array Oper} {Q : Exit → Act → World → Prop} {a : Act} {w : World} {rest : List Oper} {dst : Option Tmp} {ty : TypeId} {pos : String} {after : Array Edge} {n : Nat} {parts : Array (Nat × Operand)}
/-- A slice literal of n sectors behind a guard. -/
theorem wlitg {gd : Option (Nat × Bool)} (F : Nat → Nat → Nat) (l : List (Nat → Nat)) (hwt : Region.wanted ⟨dst, .buildSlice 22 n parts, ty, pos, after, gd⟩ (yielded ops a.tmps) = true) (hF : (fun i => l.getD i fun _ => 0) = F) (hl : l.length = n) (h0 : 0 < n) (h1 : n ≤ 1000) (hp : parts.toList.map (fun x => (x.1, a.eval x.2)) = partsFrom 0 l)
    (h : wpList Try.prog ops Q rest (a.put dst (.slice (some ⟨w.heap.size, 0, none⟩) n n)) (w.alloc (.cells (secs n F) 25))) :
    wpList Try.prog ops Q (⟨dst, .buildSlice 22 n parts, ty, pos, after, gd⟩ :: rest) a w := by
  subst hF
  have hi : ∃ ie, Try.prog.info? 25 = some ie := ⟨_, rfl⟩
  obtain ⟨ie, hie⟩ := hi
  have hs : ie.size = 64 := by have := info_sec; rw [hie] at this; simpa using this
  have hz : ∃ z, ie.zero = some z := by
    have : ((Try.prog.info? 25).bind (·.zero)).isSome = true := by kernel_rfl
    rw [hie] at this
    exact Option.isSome_iff_exists.1 this
  obtain ⟨z, hz⟩ := hz
  unfold wpList
  rw [if_pos hwt]
  refine .inl ?_
  unfold Oper.wp execOp
  simp only [Sem.run_bind, run_lit l hl h0 h1 (by rw [Array.toList_map]; exact hp) Try.underlying22 hie hz hs w, Result.andThen_ok]
  exact h
end
/-- What is held all along: sectors in blocks of their own, and rows of four. -/
def Hold (w : World) (bs : List (Nat × (Nat → Nat))) (ss : List (Nat × (Nat → Nat → Nat))) : Prop :=
  (∀ b, b ∈ bs → Blk w b.1 25 (sec b.2)) ∧ ∀ s, s ∈ ss → Secs w w.heap.size (some ⟨s.1, 0, none⟩) 4 s.2
theorem Hold.below {w w' : World} {bs : List (Nat × (Nat → Nat))} {ss : List (Nat × (Nat → Nat → Nat))} (h : Hold w bs ss) (hb : Below w.heap.size w w') : Hold w' bs ss :=
  ⟨fun b hm => (h.1 b hm).below hb (h.1 b hm).lt, fun s hm => ((h.2 s hm).below hb (Nat.le_refl _)).more hb.size⟩
theorem lit_secs {w : World} {n : Nat} {F : Nat → Nat → Nat} : Secs (w.alloc (.cells (secs n F) 25)) (w.alloc (.cells (secs n F) 25)).heap.size (some ⟨w.heap.size, 0, none⟩) n F :=
  secs_Secs (Blk.new _ _ _) (Blk.new _ _ _).lt
theorem mks {ops : Array Oper} {Q : Exit → Act → World → Prop} {a : Act} {w : World} {rest : List Oper} {dst : Option Tmp} {ty : TypeId} {pos : String} {after : Array Edge} {x y : Operand} (n : Nat) (hn : n ≤ 1000)
    (hx : a.eval x = .int .i64 (n : Int)) (hy : a.eval y = .int .i64 (n : Int)) (h : ∀ w', Below w.heap.size w w' → wpList Try.prog ops Q rest (a.put dst (.slice (some ⟨w.heap.size, 0, none⟩) n n)) w') :
    wpList Try.prog ops Q (⟨dst, .makeSlice 22 x y, ty, pos, after, none⟩ :: rest) a w := by
  obtain ⟨i, z, hi, hz, h1, h2, h3⟩ := parts_sec
  obtain ⟨w', hr, _, hg⟩ := run_makeSlice_full (P := Try.prog) w w.heap.size 22 25 i z 64 Try.underlying22 hi hz h1 .i64 .i64 n (by omega) (by rw [h2]; omega) (by unfold maxLen; omega) (Nat.le_refl _)
  refine wpList_plain rfl fun K hK => ?_
  unfold Oper.wp execOp
  simp only [hx, hy, Sem.run_bind, hr, Result.andThen_ok]
  exact hK _ _ (h w' ⟨hg.os, hg.tape, hg.output, hg.size, fun k hk => hg.block k hk (by intro e; cases e)⟩)
theorem fix4 (l : List Nat) (k : Nat) (hk : l.length = k) (A A' : Option Addr) (cap c : Nat) (G : Nat → Nat → Nat) (hGl : ∀ i k, G i k < 256) (h3 : k ≤ 2) (hl : ∀ x, x ∈ l → x < 4) (hG : ∀ i, i < 4 → i ∉ l → G i = lst [c1, c2, c3, c5] i)
    (w : World) (hs : Ints w w.heap.size A' k fun j => ((l.getD j 0 : Nat) : Int)) (hS : Secs w w.heap.size A 4 G) :
    Calls Try.prog 17 #[.slice A 4 cap, .slice A' k c] w fun e w' => ∃ g cap' : Nat, e = .returned (.tuple #[.slice (some ⟨g, 0, none⟩) 4 cap', .int .i64 0]) ∧
      Secs w' w'.heap.size (some ⟨g, 0, none⟩) 4 (rowF 2 (lst [c1, c2])) ∧ Below w.heap.size w w' := by
  subst hk
  exact (fix_back l A A' 2 cap c (lst [c1, c2]) G (k_lt _ (by simp)) hGl (by decide) (by decide) h3 hl (fun i hi hn z _ => by rw [row2 i hi, hG i hi hn]) w hs hS).mono fun e w' ⟨g, c', h1, h2, h3⟩ => ⟨g, c', h1, h2.secs.1, h3⟩
set_option maxRecDepth 100000 in
set_option maxHeartbeats 40000000 in
theorem known_any (W : World) :
    Calls Try.prog 9 #[] W fun e w' => e = .returned (.bool true) ∧ Below W.heap.size W w' := by
  go_enter Try.func9, Try.ntmps9
  go_wp2_with fail
  refine (filled_any 1 _).mono ?_
  rintro e w1 ⟨rfl, hb1⟩
  go_wp2_with fail
  refine (filled_any 2 _).mono ?_
  rintro e w2 ⟨rfl, hb2⟩
  go_wp2_with fail
  refine (filled_any 0 _).mono ?_
  rintro e w3 ⟨rfl, hb3⟩
  rw [show (fun _ : Nat => 1) = c1 from rfl, show (fun _ : Nat => 2) = c2 from rfl, show (fun _ : Nat => 0) = c0 from rfl]
  go_upto_region 2 with (first | ((with_reducible apply stx); rfl; rfl; (with_reducible exact ((Blk.top zlit rfl).alloc _).alloc _)) | ((with_reducible apply stx); rfl; rfl; (with_reducible exact ((Blk.top zlit (by simp)).alloc _).setRow_other (by omega) _)) | ((with_reducible apply stx); rfl; rfl; (with_reducible exact ((Blk.top zlit (by simp)).setRow_other (by omega) _).setRow_other (by omega) _)))
  generalize hw4 : World.setRow (World.setRow (World.setRow (World.alloc (World.alloc (World.alloc w3 _) _) _) _ _) _ _) _ _ = w4
  have a1 : Blk w4 w3.heap.size 25 (sec c1) := by rw [← hw4]; exact (((((Blk.top zlit rfl).alloc _).alloc _).setRow_same _).setRow_other (by omega) _).setRow_other (by omega) _
  have a2 : Blk w4 (w3.heap.size + 1) 25 (sec c2) := by rw [← hw4]; exact ((((Blk.top zlit (by simp)).alloc _).setRow_other (by omega) _).setRow_same _).setRow_other (by omega) _
  have a3 : Blk w4 (w3.heap.size + 1 + 1) 25 (sec c0) := by rw [← hw4]; exact (((Blk.top zlit (by simp)).setRow_other (by omega) _).setRow_other (by omega) _).setRow_same _
  have hb : Below W.heap.size W w4 := by
    have h3 := (hb1.trans (hb2.mono hb1.size)).trans (hb3.mono (hb1.trans (hb2.mono hb1.size)).size)
    have hz := h3.size
    rw [← hw4]
    exact below_setRow (below_setRow (below_setRow (((h3.alloc hz _).alloc (by simp; omega) _).alloc (by simp; omega) _) hz _) (by omega) _) (by omega) _
  clear hw4 hb1 hb2 hb3
  generalize w3.heap.size = A at *
  have K := HID (show Hold w4 [(A, c1), (A + 1, c2), (A + 1 + 1, c0)] [] from ⟨by simp; exact ⟨a1, a2, a3⟩, by simp⟩)
  go_wp2_with (first | ((with_reducible apply ld); rfl; assumption) | ((with_reducible apply wlit (lst [c1, c2]) [c1, c2]); rfl; rfl; exact Nat.succ_pos _; exact (by decide : 2 ≤ 1000); rfl))
  have hA : Below w4.heap.size w4 (w4.alloc (.cells (secs 2 (lst [c1, c2])) 25)) := (Below.refl _ _).alloc (Nat.le_refl _) _
  refine (of_some (some ⟨w4.heap.size, 0, none⟩) 2 2 (lst [c1, c2]) (k_lt _ (by simp)) (by decide) (by decide) _ lit_secs).mono ?_
  rintro e w5 ⟨rfl, hC⟩
  rw [P2, Q2]
  have hD := hA.trans (hC.mono hA.size)
  have hz := hD.size
  clear hA hC
  go_upto_region 3 with (first | ((with_reducible apply stx); rfl; rfl; (with_reducible exact (Blk.top zlit rfl).alloc _)) | ((with_reducible apply stx); rfl; rfl; (with_reducible exact (Blk.top zlit (by simp)).setRow_other (by omega) _)))
  generalize hwn : World.setRow (World.setRow (World.alloc (World.alloc w5 _) _) _ _) _ _ = w6
  have n1 : Blk w6 w5.heap.size 25 (sec c3) := by rw [← hwn]; exact (((Blk.top zlit rfl).alloc _).setRow_same _).setRow_other (by omega) _
  have n2 : Blk w6 (w5.heap.size + 1) 25 (sec c5) := by rw [← hwn]; exact ((Blk.top zlit (by simp)).setRow_other (by omega) _).setRow_same _
  have hE : Below w4.heap.size w4 w6 := by rw [← hwn]; exact below_setRow (below_setRow ((hD.alloc hz _).alloc (by simp; omega) _) hz _) (by omega) _
  clear hwn hD hz a1 a2 a3
  generalize w5.heap.size = B2 at *
  have hb := hb.trans (hE.mono hb.size)
  have hK := K.out.below hE
  have K := HID (show Hold w6 [(A, c1), (A + 1, c2), (A + 1 + 1, c0), (B2, c3), (B2 + 1, c5)] [] from ⟨fun b hm => by
    rcases List.mem_append.1 (show b ∈ [(A, c1), (A + 1, c2), (A + 1 + 1, c0)] ++ [(B2, c3), (B2 + 1, c5)] from hm) with h | h
    · exact hK.1 b h
    · simp at h
      rcases h with rfl | rfl
      · exact n1
      · exact n2, hK.2⟩)
  clear hK hE n1 n2
  have a1 : Blk w6 (A) 25 (sec c1) := K.out.1 (A, c1) (by simp)
  have a2 : Blk w6 (A + 1) 25 (sec c2) := K.out.1 (A + 1, c2) (by simp)
  have a3 : Blk w6 (A + 1 + 1) 25 (sec c0) := K.out.1 (A + 1 + 1, c0) (by simp)
  have a4 : Blk w6 (B2) 25 (sec c3) := K.out.1 (B2, c3) (by simp)
  have a5 : Blk w6 (B2 + 1) 25 (sec c5) := K.out.1 (B2 + 1, c5) (by simp)
  go_wp2_with (first | ((with_reducible apply ld); rfl; assumption) | ((with_reducible apply wlit (lst [c1]) [c1]); rfl; rfl; exact Nat.succ_pos _; exact (by decide : 1 ≤ 1000); rfl))
  have hA : Below w6.heap.size w6 (w6.alloc (.cells (secs 1 (lst [c1])) 25)) := (Below.refl _ _).alloc (Nat.le_refl _) _
  refine (of_some (some ⟨w6.heap.size, 0, none⟩) 1 1 (lst [c1]) (k_lt _ (by simp)) (by decide) (by decide) _ lit_secs).mono ?_
  rintro e w7 ⟨rfl, hC⟩
  rw [P1, Q1]
  have hD := hA.trans (hC.mono hA.size)
  have hz := hD.size
  clear hA hC
  go_upto_region 4 with (first | ((with_reducible apply stx); rfl; rfl; (with_reducible exact (Blk.top zlit rfl).alloc _)) | ((with_reducible apply stx); rfl; rfl; (with_reducible exact (Blk.top zlit (by simp)).setRow_other (by omega) _)))
  generalize hwn : World.setRow (World.setRow (World.alloc (World.alloc w7 _) _) _ _) _ _ = w8
  have n1 : Blk w8 w7.heap.size 25 (sec c1) := by rw [← hwn]; exact (((Blk.top zlit rfl).alloc _).setRow_same _).setRow_other (by omega) _
  have n2 : Blk w8 (w7.heap.size + 1) 25 (sec c1) := by rw [← hwn]; exact ((Blk.top zlit (by simp)).setRow_other (by omega) _).setRow_same _
  have hE : Below w6.heap.size w6 w8 := by rw [← hwn]; exact below_setRow (below_setRow ((hD.alloc hz _).alloc (by simp; omega) _) hz _) (by omega) _
  clear hwn hD hz a1 a2 a3 a4 a5
  generalize w7.heap.size = B3 at *
  have hb := hb.trans (hE.mono hb.size)
  have hK := K.out.below hE
  have K := HID (show Hold w8 [(A, c1), (A + 1, c2), (A + 1 + 1, c0), (B2, c3), (B2 + 1, c5), (B3, c1), (B3 + 1, c1)] [] from ⟨fun b hm => by
    rcases List.mem_append.1 (show b ∈ [(A, c1), (A + 1, c2), (A + 1 + 1, c0), (B2, c3), (B2 + 1, c5)] ++ [(B3, c1), (B3 + 1, c1)] from hm) with h | h
    · exact hK.1 b h
    · simp at h
      rcases h with rfl | rfl
      · exact n1
      · exact n2, hK.2⟩)
  clear hK hE n1 n2
  have a1 : Blk w8 (A) 25 (sec c1) := K.out.1 (A, c1) (by simp)
  have a2 : Blk w8 (A + 1) 25 (sec c2) := K.out.1 (A + 1, c2) (by simp)
  have a3 : Blk w8 (A + 1 + 1) 25 (sec c0) := K.out.1 (A + 1 + 1, c0) (by simp)
  have a4 : Blk w8 (B2) 25 (sec c3) := K.out.1 (B2, c3) (by simp)
  have a5 : Blk w8 (B2 + 1) 25 (sec c5) := K.out.1 (B2 + 1, c5) (by simp)
  have a6 : Blk w8 (B3) 25 (sec c1) := K.out.1 (B3, c1) (by simp)
  have a7 : Blk w8 (B3 + 1) 25 (sec c1) := K.out.1 (B3 + 1, c1) (by simp)
  go_wp2_with (first | ((with_reducible apply ld); rfl; assumption) | ((with_reducible apply wlit (lst [c1, c2, c1]) [c1, c2, c1]); rfl; rfl; exact Nat.succ_pos _; exact (by decide : 3 ≤ 1000); rfl))
  have hA : Below w8.heap.size w8 (w8.alloc (.cells (secs 3 (lst [c1, c2, c1])) 25)) := (Below.refl _ _).alloc (Nat.le_refl _) _
  refine (of_some (some ⟨w8.heap.size, 0, none⟩) 3 3 (lst [c1, c2, c1]) (k_lt _ (by simp)) (by decide) (by decide) _ lit_secs).mono ?_
  rintro e w9 ⟨rfl, hC⟩
  rw [P3, Q3]
  have hD := hA.trans (hC.mono hA.size)
  have hz := hD.size
  clear hA hC
  go_upto_region 5 with (first | ((with_reducible apply stx); rfl; rfl; (with_reducible exact (Blk.top zlit rfl).alloc _)) | ((with_reducible apply stx); rfl; rfl; (with_reducible exact (Blk.top zlit (by simp)).setRow_other (by omega) _)))
  generalize hwn : World.setRow (World.setRow (World.alloc (World.alloc w9 _) _) _ _) _ _ = w10
  have n1 : Blk w10 w9.heap.size 25 (sec c2) := by rw [← hwn]; exact (((Blk.top zlit rfl).alloc _).setRow_same _).setRow_other (by omega) _
  have n2 : Blk w10 (w9.heap.size + 1) 25 (sec c1) := by rw [← hwn]; exact ((Blk.top zlit (by simp)).setRow_other (by omega) _).setRow_same _
  have hE : Below w8.heap.size w8 w10 := by rw [← hwn]; exact below_setRow (below_setRow ((hD.alloc hz _).alloc (by simp; omega) _) hz _) (by omega) _
  clear hwn hD hz a1 a2 a3 a4 a5 a6 a7
  generalize w9.heap.size = B4 at *
  have hb := hb.trans (hE.mono hb.size)
  have hK := K.out.below hE
  have K := HID (show Hold w10 [(A, c1), (A + 1, c2), (A + 1 + 1, c0), (B2, c3), (B2 + 1, c5), (B3, c1), (B3 + 1, c1), (B4, c2), (B4 + 1, c1)] [] from ⟨fun b hm => by
    rcases List.mem_append.1 (show b ∈ [(A, c1), (A + 1, c2), (A + 1 + 1, c0), (B2, c3), (B2 + 1, c5), (B3, c1), (B3 + 1, c1)] ++ [(B4, c2), (B4 + 1, c1)] from hm) with h | h
    · exact hK.1 b h
    · simp at h
      rcases h with rfl | rfl
      · exact n1
      · exact n2, hK.2⟩)
  clear hK hE n1 n2
  have a1 : Blk w10 (A) 25 (sec c1) := K.out.1 (A, c1) (by simp)
  have a2 : Blk w10 (A + 1) 25 (sec c2) := K.out.1 (A + 1, c2) (by simp)
  have a3 : Blk w10 (A + 1 + 1) 25 (sec c0) := K.out.1 (A + 1 + 1, c0) (by simp)
  have a4 : Blk w10 (B2) 25 (sec c3) := K.out.1 (B2, c3) (by simp)
  have a5 : Blk w10 (B2 + 1) 25 (sec c5) := K.out.1 (B2 + 1, c5) (by simp)
  have a6 : Blk w10 (B3) 25 (sec c1) := K.out.1 (B3, c1) (by simp)
  have a7 : Blk w10 (B3 + 1) 25 (sec c1) := K.out.1 (B3 + 1, c1) (by simp)
  have a8 : Blk w10 (B4) 25 (sec c2) := K.out.1 (B4, c2) (by simp)
  have a9 : Blk w10 (B4 + 1) 25 (sec c1) := K.out.1 (B4 + 1, c1) (by simp)
  have hE : Below w10.heap.size w10 (w10.alloc (.cells (secs 4 (lst [c1, c2, c3, c5])) 25)) := (Below.refl _ _).alloc (Nat.le_refl _) _
  have sA := lit_secs (w := w10) (n := 4) (F := lst [c1, c2, c3, c5])
  go_upto_region 6 with (first | ((with_reducible apply ld); rfl; assumption) | ((with_reducible apply wlit (lst [c1, c2, c3, c5]) [c1, c2, c3, c5]); rfl; rfl; exact Nat.succ_pos _; exact (by decide : 4 ≤ 1000); rfl))
  generalize w10.alloc (.cells (secs 4 (lst [c1, c2, c3, c5])) 25) = w11 at *
  have hb := hb.trans (hE.mono hb.size)
  have hK := K.out.below hE
  clear a1 a2 a3 a4 a5 a6 a7 a8 a9
  generalize w10.heap.size = B5 at *
  have K := HID (show Hold w11 [(A, c1), (A + 1, c2), (A + 1 + 1, c0), (B2, c3), (B2 + 1, c5), (B3, c1), (B3 + 1, c1), (B4, c2), (B4 + 1, c1)] [(B5, lst [c1, c2, c3, c5])] from ⟨hK.1, fun s hm => by
    rcases List.mem_cons.1 hm with rfl | h
    · exact sA
    · exact hK.2 s h⟩)
  clear hK hE sA
  have a1 : Blk w11 (A) 25 (sec c1) := K.out.1 (A, c1) (by simp)
  have a2 : Blk w11 (A + 1) 25 (sec c2) := K.out.1 (A + 1, c2) (by simp)
  have a3 : Blk w11 (A + 1 + 1) 25 (sec c0) := K.out.1 (A + 1 + 1, c0) (by simp)
  have a4 : Blk w11 (B2) 25 (sec c3) := K.out.1 (B2, c3) (by simp)
  have a5 : Blk w11 (B2 + 1) 25 (sec c5) := K.out.1 (B2 + 1, c5) (by simp)
  have a6 : Blk w11 (B3) 25 (sec c1) := K.out.1 (B3, c1) (by simp)
  have a7 : Blk w11 (B3 + 1) 25 (sec c1) := K.out.1 (B3 + 1, c1) (by simp)
  have a8 : Blk w11 (B4) 25 (sec c2) := K.out.1 (B4, c2) (by simp)
  have a9 : Blk w11 (B4 + 1) 25 (sec c1) := K.out.1 (B4 + 1, c1) (by simp)
  have hE : Below w11.heap.size w11 ((w11.alloc (.cells (secs 4 (lst [c0, c2, c3, c5])) 25)).alloc (.cells #[.int .i64 0] 3)) := ((Below.refl _ _).alloc (Nat.le_refl _) _).alloc (by simp) _
  have sA := ((lit_secs (w := w11) (n := 4) (F := lst [c0, c2, c3, c5])).below ((Below.refl _ _).alloc (Nat.le_refl _) (.cells #[.int .i64 0] 3)) (Nat.le_refl _)).more (by simp : _ ≤ ((w11.alloc (.cells (secs 4 (lst [c0, c2, c3, c5])) 25)).alloc (.cells #[.int .i64 0] 3)).heap.size)
  have hin : Ints ((w11.alloc (.cells (secs 4 (lst [c0, c2, c3, c5])) 25)).alloc (.cells #[.int .i64 0] 3)) ((w11.alloc (.cells (secs 4 (lst [c0, c2, c3, c5])) 25)).alloc (.cells #[.int .i64 0] 3)).heap.size (some ⟨(w11.alloc (.cells (secs 4 (lst [c0, c2, c3, c5])) 25)).heap.size, 0, none⟩) 1 (fun j => (([0].getD j 0 : Nat) : Int)) := fun _ =>
    ⟨(w11.alloc (.cells (secs 4 (lst [c0, c2, c3, c5])) 25)).heap.size, 0, rfl, (Blk.new _ _ _).lt, fun j hj => by
      rw [(Blk.new (w11.alloc (.cells (secs 4 (lst [c0, c2, c3, c5])) 25)) 3 #[.int .i64 0]).cell, Nat.zero_add]
      match j, hj with
      | 0, _ => rfl⟩
  have fb := fix4 [0] 1 rfl (some ⟨w11.heap.size, 0, none⟩) (some ⟨(w11.alloc (.cells (secs 4 (lst [c0, c2, c3, c5])) 25)).heap.size, 0, none⟩) 4 1 (lst [c0, c2, c3, c5]) (k_lt _ (by simp)) (by decide) (by simp) (fun i hi hn => by
    match i, hi with
    | 0, _ => first | rfl | exact absurd (by decide) hn
    | 1, _ => first | rfl | exact absurd (by decide) hn
    | 2, _ => first | rfl | exact absurd (by decide) hn
    | 3, _ => first | rfl | exact absurd (by decide) hn) _ hin sA
  clear sA hin
  rw [show (w11.alloc (.cells (secs 4 (lst [c0, c2, c3, c5])) 25)).heap.size = w11.heap.size + 1 by simp] at fb
  go_wp2_with (first | ((with_reducible apply ld); rfl; assumption) | ((with_reducible apply wlit (lst [c0, c2, c3, c5]) [c0, c2, c3, c5]); rfl; rfl; exact Nat.succ_pos _; exact (by decide : 4 ≤ 1000); rfl))
  refine fb.mono ?_
  rintro e w12 ⟨g6, cap6, rfl, s1, hF⟩
  have hG := hE.trans (hF.mono hE.size)
  have hb := hb.trans (hG.mono hb.size)
  have hK := K.out.below hG
  have K := HID (show Hold w12 [(A, c1), (A + 1, c2), (A + 1 + 1, c0), (B2, c3), (B2 + 1, c5), (B3, c1), (B3 + 1, c1), (B4, c2), (B4 + 1, c1)] [(g6, rowF 2 (lst [c1, c2])), (B5, lst [c1, c2, c3, c5])] from ⟨hK.1, fun s hm => by
    rcases List.mem_cons.1 hm with rfl | h
    · exact s1
    · exact hK.2 s h⟩)
  clear s1
  clear hK hE hF hG fb a1 a2 a3 a4 a5 a6 a7 a8 a9
  have a1 : Blk w12 (A) 25 (sec c1) := K.out.1 (A, c1) (by simp)
  have a2 : Blk w12 (A + 1) 25 (sec c2) := K.out.1 (A + 1, c2) (by simp)
  have a3 : Blk w12 (A + 1 + 1) 25 (sec c0) := K.out.1 (A + 1 + 1, c0) (by simp)
  have a4 : Blk w12 (B2) 25 (sec c3) := K.out.1 (B2, c3) (by simp)
  have a5 : Blk w12 (B2 + 1) 25 (sec c5) := K.out.1 (B2 + 1, c5) (by simp)
  have a6 : Blk w12 (B3) 25 (sec c1) := K.out.1 (B3, c1) (by simp)
  have a7 : Blk w12 (B3 + 1) 25 (sec c1) := K.out.1 (B3 + 1, c1) (by simp)
  have a8 : Blk w12 (B4) 25 (sec c2) := K.out.1 (B4, c2) (by simp)
  have a9 : Blk w12 (B4 + 1) 25 (sec c1) := K.out.1 (B4 + 1, c1) (by simp)
  go_upto_region 7 with (fail)
  have hE : Below w12.heap.size w12 ((w12.alloc (.cells (secs 4 (lst [c0, c0, c3, c5])) 25)).alloc (.cells #[.int .i64 0, .int .i64 1] 3)) := ((Below.refl _ _).alloc (Nat.le_refl _) _).alloc (by simp) _
  have sA := ((lit_secs (w := w12) (n := 4) (F := lst [c0, c0, c3, c5])).below ((Below.refl _ _).alloc (Nat.le_refl _) (.cells #[.int .i64 0, .int .i64 1] 3)) (Nat.le_refl _)).more (by simp : _ ≤ ((w12.alloc (.cells (secs 4 (lst [c0, c0, c3, c5])) 25)).alloc (.cells #[.int .i64 0, .int .i64 1] 3)).heap.size)
  have hin : Ints ((w12.alloc (.cells (secs 4 (lst [c0, c0, c3, c5])) 25)).alloc (.cells #[.int .i64 0, .int .i64 1] 3)) ((w12.alloc (.cells (secs 4 (lst [c0, c0, c3, c5])) 25)).alloc (.cells #[.int .i64 0, .int .i64 1] 3)).heap.size (some ⟨(w12.alloc (.cells (secs 4 (lst [c0, c0, c3, c5])) 25)).heap.size, 0, none⟩) 2 (fun j => (([0, 1].getD j 0 : Nat) : Int)) := fun _ =>
    ⟨(w12.alloc (.cells (secs 4 (lst [c0, c0, c3, c5])) 25)).heap.size, 0, rfl, (Blk.new _ _ _).lt, fun j hj => by
      rw [(Blk.new (w12.alloc (.cells (secs 4 (lst [c0, c0, c3, c5])) 25)) 3 #[.int .i64 0, .int .i64 1]).cell, Nat.zero_add]
      match j, hj with
      | 0, _ => rfl
      | 1, _ => rfl⟩
  have fb := fix4 [0, 1] 2 rfl (some ⟨w12.heap.size, 0, none⟩) (some ⟨(w12.alloc (.cells (secs 4 (lst [c0, c0, c3, c5])) 25)).heap.size, 0, none⟩) 4 2 (lst [c0, c0, c3, c5]) (k_lt _ (by simp)) (by decide) (by simp) (fun i hi hn => by
    match i, hi with
    | 0, _ => first | rfl | exact absurd (by decide) hn
    | 1, _ => first | rfl | exact absurd (by decide) hn
    | 2, _ => first | rfl | exact absurd (by decide) hn
    | 3, _ => first | rfl | exact absurd (by decide) hn) _ hin sA
  clear sA hin
  rw [show (w12.alloc (.cells (secs 4 (lst [c0, c0, c3, c5])) 25)).heap.size = w12.heap.size + 1 by simp] at fb
  go_wp2_with (first | ((with_reducible apply ld); rfl; assumption) | ((with_reducible apply wlit (lst [c0, c0, c3, c5]) [c0, c0, c3, c5]); rfl; rfl; exact Nat.succ_pos _; exact (by decide : 4 ≤ 1000); rfl))
  refine fb.mono ?_
  rintro e w13 ⟨g7, cap7, rfl, s1, hF⟩
  have hG := hE.trans (hF.mono hE.size)
  have hb := hb.trans (hG.mono hb.size)
  have hK := K.out.below hG
  have K := HID (show Hold w13 [(A, c1), (A + 1, c2), (A + 1 + 1, c0), (B2, c3), (B2 + 1, c5), (B3, c1), (B3 + 1, c1), (B4, c2), (B4 + 1, c1)] [(g7, rowF 2 (lst [c1, c2])), (g6, rowF 2 (lst [c1, c2])), (B5, lst [c1, c2, c3, c5])] from ⟨hK.1, fun s hm => by
    rcases List.mem_cons.1 hm with rfl | h
    · exact s1
    · exact hK.2 s h⟩)
  clear s1
  clear hK hE hF hG fb a1 a2 a3 a4 a5 a6 a7 a8 a9
  have a1 : Blk w13 (A) 25 (sec c1) := K.out.1 (A, c1) (by simp)
  have a2 : Blk w13 (A + 1) 25 (sec c2) := K.out.1 (A + 1, c2) (by simp)
  have a3 : Blk w13 (A + 1 + 1) 25 (sec c0) := K.out.1 (A + 1 + 1, c0) (by simp)
  have a4 : Blk w13 (B2) 25 (sec c3) := K.out.1 (B2, c3) (by simp)
  have a5 : Blk w13 (B2 + 1) 25 (sec c5) := K.out.1 (B2 + 1, c5) (by simp)
  have a6 : Blk w13 (B3) 25 (sec c1) := K.out.1 (B3, c1) (by simp)
  have a7 : Blk w13 (B3 + 1) 25 (sec c1) := K.out.1 (B3 + 1, c1) (by simp)
  have a8 : Blk w13 (B4) 25 (sec c2) := K.out.1 (B4, c2) (by simp)
  have a9 : Blk w13 (B4 + 1) 25 (sec c1) := K.out.1 (B4 + 1, c1) (by simp)
  go_upto_region 8 with (fail)
  have hE : Below w13.heap.size w13 ((w13.alloc (.cells (secs 4 (lst [c1, c0, c0, c5])) 25)).alloc (.cells #[.int .i64 1, .int .i64 2] 3)) := ((Below.refl _ _).alloc (Nat.le_refl _) _).alloc (by simp) _
  have sA := ((lit_secs (w := w13) (n := 4) (F := lst [c1, c0, c0, c5])).below ((Below.refl _ _).alloc (Nat.le_refl _) (.cells #[.int .i64 1, .int .i64 2] 3)) (Nat.le_refl _)).more (by simp : _ ≤ ((w13.alloc (.cells (secs 4 (lst [c1, c0, c0, c5])) 25)).alloc (.cells #[.int .i64 1, .int .i64 2] 3)).heap.size)
  have hin : Ints ((w13.alloc (.cells (secs 4 (lst [c1, c0, c0, c5])) 25)).alloc (.cells #[.int .i64 1, .int .i64 2] 3)) ((w13.alloc (.cells (secs 4 (lst [c1, c0, c0, c5])) 25)).alloc (.cells #[.int .i64 1, .int .i64 2] 3)).heap.size (some ⟨(w13.alloc (.cells (secs 4 (lst [c1, c0, c0, c5])) 25)).heap.size, 0, none⟩) 2 (fun j => (([1, 2].getD j 0 : Nat) : Int)) := fun _ =>
    ⟨(w13.alloc (.cells (secs 4 (lst [c1, c0, c0, c5])) 25)).heap.size, 0, rfl, (Blk.new _ _ _).lt, fun j hj => by
      rw [(Blk.new (w13.alloc (.cells (secs 4 (lst [c1, c0, c0, c5])) 25)) 3 #[.int .i64 1, .int .i64 2]).cell, Nat.zero_add]
      match j, hj with
      | 0, _ => rfl
      | 1, _ => rfl⟩
  have fb := fix4 [1, 2] 2 rfl (some ⟨w13.heap.size, 0, none⟩) (some ⟨(w13.alloc (.cells (secs 4 (lst [c1, c0, c0, c5])) 25)).heap.size, 0, none⟩) 4 2 (lst [c1, c0, c0, c5]) (k_lt _ (by simp)) (by decide) (by simp) (fun i hi hn => by
    match i, hi with
    | 0, _ => first | rfl | exact absurd (by decide) hn
    | 1, _ => first | rfl | exact absurd (by decide) hn
    | 2, _ => first | rfl | exact absurd (by decide) hn
    | 3, _ => first | rfl | exact absurd (by decide) hn) _ hin sA
  clear sA hin
  rw [show (w13.alloc (.cells (secs 4 (lst [c1, c0, c0, c5])) 25)).heap.size = w13.heap.size + 1 by simp] at fb
  go_wp2_with (first | ((with_reducible apply ld); rfl; assumption) | ((with_reducible apply wlit (lst [c1, c0, c0, c5]) [c1, c0, c0, c5]); rfl; rfl; exact Nat.succ_pos _; exact (by decide : 4 ≤ 1000); rfl))
  refine fb.mono ?_
  rintro e w14 ⟨g8, cap8, rfl, s1, hF⟩
  have hG := hE.trans (hF.mono hE.size)
  have hb := hb.trans (hG.mono hb.size)
  have hK := K.out.below hG
  have K := HID (show Hold w14 [(A, c1), (A + 1, c2), (A + 1 + 1, c0), (B2, c3), (B2 + 1, c5), (B3, c1), (B3 + 1, c1), (B4, c2), (B4 + 1, c1)] [(g8, rowF 2 (lst [c1, c2])), (g7, rowF 2 (lst [c1, c2])), (g6, rowF 2 (lst [c1, c2])), (B5, lst [c1, c2, c3, c5])] from ⟨hK.1, fun s hm => by
    rcases List.mem_cons.1 hm with rfl | h
    · exact s1
    · exact hK.2 s h⟩)
  clear s1
  clear hK hE hF hG fb a1 a2 a3 a4 a5 a6 a7 a8 a9
  have a1 : Blk w14 (A) 25 (sec c1) := K.out.1 (A, c1) (by simp)
  have a2 : Blk w14 (A + 1) 25 (sec c2) := K.out.1 (A + 1, c2) (by simp)
  have a3 : Blk w14 (A + 1 + 1) 25 (sec c0) := K.out.1 (A + 1 + 1, c0) (by simp)
  have a4 : Blk w14 (B2) 25 (sec c3) := K.out.1 (B2, c3) (by simp)
  have a5 : Blk w14 (B2 + 1) 25 (sec c5) := K.out.1 (B2 + 1, c5) (by simp)
  have a6 : Blk w14 (B3) 25 (sec c1) := K.out.1 (B3, c1) (by simp)
  have a7 : Blk w14 (B3 + 1) 25 (sec c1) := K.out.1 (B3 + 1, c1) (by simp)
  have a8 : Blk w14 (B4) 25 (sec c2) := K.out.1 (B4, c2) (by simp)
  have a9 : Blk w14 (B4 + 1) 25 (sec c1) := K.out.1 (B4 + 1, c1) (by simp)
  go_upto_region 9 with (fail)
  have hE : Below w14.heap.size w14 ((w14.alloc (.cells (secs 4 (lst [c1, c2, c0, c0])) 25)).alloc (.cells #[.int .i64 0, .int .i64 1, .int .i64 2] 3)) := ((Below.refl _ _).alloc (Nat.le_refl _) _).alloc (by simp) _
  have sA := ((lit_secs (w := w14) (n := 4) (F := lst [c1, c2, c0, c0])).below ((Below.refl _ _).alloc (Nat.le_refl _) (.cells #[.int .i64 0, .int .i64 1, .int .i64 2] 3)) (Nat.le_refl _)).more (by simp : _ ≤ ((w14.alloc (.cells (secs 4 (lst [c1, c2, c0, c0])) 25)).alloc (.cells #[.int .i64 0, .int .i64 1, .int .i64 2] 3)).heap.size)
  have hin : Ints ((w14.alloc (.cells (secs 4 (lst [c1, c2, c0, c0])) 25)).alloc (.cells #[.int .i64 0, .int .i64 1, .int .i64 2] 3)) ((w14.alloc (.cells (secs 4 (lst [c1, c2, c0, c0])) 25)).alloc (.cells #[.int .i64 0, .int .i64 1, .int .i64 2] 3)).heap.size (some ⟨(w14.alloc (.cells (secs 4 (lst [c1, c2, c0, c0])) 25)).heap.size, 0, none⟩) 3 (fun j => (([0, 1, 2].getD j 0 : Nat) : Int)) := fun _ =>
    ⟨(w14.alloc (.cells (secs 4 (lst [c1, c2, c0, c0])) 25)).heap.size, 0, rfl, (Blk.new _ _ _).lt, fun j hj => by
      rw [(Blk.new (w14.alloc (.cells (secs 4 (lst [c1, c2, c0, c0])) 25)) 3 #[.int .i64 0, .int .i64 1, .int .i64 2]).cell, Nat.zero_add]
      match j, hj with
      | 0, _ => rfl
      | 1, _ => rfl
      | 2, _ => rfl⟩
  have fb := fix_full (some ⟨w14.heap.size, 0, none⟩) (some ⟨(w14.alloc (.cells (secs 4 (lst [c1, c2, c0, c0])) 25)).heap.size, 0, none⟩) 4 4 3 3 (fun j => (([0, 1, 2].getD j 0 : Nat) : Int)) (by decide) (by decide) (by decide) _ hin (by decide) (by decide) (cnt_ge (M := marks 3 fun j => (([0, 1, 2].getD j 0 : Nat) : Int)) [0, 1, 2] (by decide) fun x hx => ⟨by simp at hx; omega, marks_list (l := [0, 1, 2]).2 hx⟩)
  clear sA hin
  rw [show (w14.alloc (.cells (secs 4 (lst [c1, c2, c0, c0])) 25)).heap.size = w14.heap.size + 1 by simp] at fb
  go_wp2_with (first | ((with_reducible apply ld); rfl; assumption) | ((with_reducible apply wlit (lst [c1, c2, c0, c0]) [c1, c2, c0, c0]); rfl; rfl; exact Nat.succ_pos _; exact (by decide : 4 ≤ 1000); rfl))
  refine fb.mono ?_
  rintro e w15 ⟨rfl, hF⟩
  have hG := hE.trans (hF.mono hE.size)
  have hb := hb.trans (hG.mono hb.size)
  have hK := K.out.below hG
  have K := HID hK
  clear hK hE hF hG fb a1 a2 a3 a4 a5 a6 a7 a8 a9
  have a1 : Blk w15 (A) 25 (sec c1) := K.out.1 (A, c1) (by simp)
  have a2 : Blk w15 (A + 1) 25 (sec c2) := K.out.1 (A + 1, c2) (by simp)
  have a3 : Blk w15 (A + 1 + 1) 25 (sec c0) := K.out.1 (A + 1 + 1, c0) (by simp)
  have a4 : Blk w15 (B2) 25 (sec c3) := K.out.1 (B2, c3) (by simp)
  have a5 : Blk w15 (B2 + 1) 25 (sec c5) := K.out.1 (B2 + 1, c5) (by simp)
  have a6 : Blk w15 (B3) 25 (sec c1) := K.out.1 (B3, c1) (by simp)
  have a7 : Blk w15 (B3 + 1) 25 (sec c1) := K.out.1 (B3 + 1, c1) (by simp)
  have a8 : Blk w15 (B4) 25 (sec c2) := K.out.1 (B4, c2) (by simp)
  have a9 : Blk w15 (B4 + 1) 25 (sec c1) := K.out.1 (B4 + 1, c1) (by simp)
  go_upto_region 10 with (fail)
  have hE : Below w15.heap.size w15 ((w15.alloc (.cells (secs 4 (lst [c1, c2, c0, c0])) 25)).alloc (.cells #[.int .i64 4] 3)) := ((Below.refl _ _).alloc (Nat.le_refl _) _).alloc (by simp) _
  have sA := ((lit_secs (w := w15) (n := 4) (F := lst [c1, c2, c0, c0])).below ((Below.refl _ _).alloc (Nat.le_refl _) (.cells #[.int .i64 4] 3)) (Nat.le_refl _)).more (by simp : _ ≤ ((w15.alloc (.cells (secs 4 (lst [c1, c2, c0, c0])) 25)).alloc (.cells #[.int .i64 4] 3)).heap.size)
  have hin : Ints ((w15.alloc (.cells (secs 4 (lst [c1, c2, c0, c0])) 25)).alloc (.cells #[.int .i64 4] 3)) ((w15.alloc (.cells (secs 4 (lst [c1, c2, c0, c0])) 25)).alloc (.cells #[.int .i64 4] 3)).heap.size (some ⟨(w15.alloc (.cells (secs 4 (lst [c1, c2, c0, c0])) 25)).heap.size, 0, none⟩) 1 (fun j => (([4].getD j 0 : Nat) : Int)) := fun _ =>
    ⟨(w15.alloc (.cells (secs 4 (lst [c1, c2, c0, c0])) 25)).heap.size, 0, rfl, (Blk.new _ _ _).lt, fun j hj => by
      rw [(Blk.new (w15.alloc (.cells (secs 4 (lst [c1, c2, c0, c0])) 25)) 3 #[.int .i64 4]).cell, Nat.zero_add]
      match j, hj with
      | 0, _ => rfl⟩
  have fb := fix_out (some ⟨w15.heap.size, 0, none⟩) (some ⟨(w15.alloc (.cells (secs 4 (lst [c1, c2, c0, c0])) 25)).heap.size, 0, none⟩) 4 4 1 1 (fun j => (([4].getD j 0 : Nat) : Int)) (by decide) (by decide) (by decide) _ hin (by decide)
  clear sA hin
  rw [show (w15.alloc (.cells (secs 4 (lst [c1, c2, c0, c0])) 25)).heap.size = w15.heap.size + 1 by simp] at fb
  go_wp2_with (first | ((with_reducible apply ld); rfl; assumption) | ((with_reducible apply wlit (lst [c1, c2, c0, c0]) [c1, c2, c0, c0]); rfl; rfl; exact Nat.succ_pos _; exact (by decide : 4 ≤ 1000); rfl))
  refine fb.mono ?_
  rintro e w16 ⟨rfl, hF⟩
  have hG := hE.trans (hF.mono hE.size)
  have hb := hb.trans (hG.mono hb.size)
  have hK := K.out.below hG
  have K := HID hK
  clear hK hE hF hG fb a1 a2 a3 a4 a5 a6 a7 a8 a9
  have a1 : Blk w16 (A) 25 (sec c1) := K.out.1 (A, c1) (by simp)
  have a2 : Blk w16 (A + 1) 25 (sec c2) := K.out.1 (A + 1, c2) (by simp)
  have a3 : Blk w16 (A + 1 + 1) 25 (sec c0) := K.out.1 (A + 1 + 1, c0) (by simp)
  have a4 : Blk w16 (B2) 25 (sec c3) := K.out.1 (B2, c3) (by simp)
  have a5 : Blk w16 (B2 + 1) 25 (sec c5) := K.out.1 (B2 + 1, c5) (by simp)
  have a6 : Blk w16 (B3) 25 (sec c1) := K.out.1 (B3, c1) (by simp)
  have a7 : Blk w16 (B3 + 1) 25 (sec c1) := K.out.1 (B3 + 1, c1) (by simp)
  have a8 : Blk w16 (B4) 25 (sec c2) := K.out.1 (B4, c2) (by simp)
  have a9 : Blk w16 (B4 + 1) 25 (sec c1) := K.out.1 (B4 + 1, c1) (by simp)
  go_upto_region 11 with (fail)
  go_wp2_with fail
  refine (of_none none 0 _).mono ?_
  rintro e w17 ⟨rfl, hD⟩
  have hz := hD.size
  go_upto_region 12 with (first | ((with_reducible apply stx); rfl; rfl; (with_reducible exact (Blk.top zlit rfl).alloc _)) | ((with_reducible apply stx); rfl; rfl; (with_reducible exact (Blk.top zlit (by simp)).setRow_other (by omega) _)))
  generalize hwn : World.setRow (World.setRow (World.alloc (World.alloc w17 _) _) _ _) _ _ = w18
  have hE : Below w16.heap.size w16 w18 := by rw [← hwn]; exact below_setRow (below_setRow ((hD.alloc hz _).alloc (by simp; omega) _) hz _) (by omega) _
  clear hwn hD hz a1 a2 a3 a4 a5 a6 a7 a8 a9
  generalize w17.heap.size = B11 at *
  have hb := hb.trans (hE.mono hb.size)
  have K := HID (K.out.below hE)
  clear hE
  have a1 : Blk w18 (A) 25 (sec c1) := K.out.1 (A, c1) (by simp)
  have a2 : Blk w18 (A + 1) 25 (sec c2) := K.out.1 (A + 1, c2) (by simp)
  have a3 : Blk w18 (A + 1 + 1) 25 (sec c0) := K.out.1 (A + 1 + 1, c0) (by simp)
  have a4 : Blk w18 (B2) 25 (sec c3) := K.out.1 (B2, c3) (by simp)
  have a5 : Blk w18 (B2 + 1) 25 (sec c5) := K.out.1 (B2 + 1, c5) (by simp)
  have a6 : Blk w18 (B3) 25 (sec c1) := K.out.1 (B3, c1) (by simp)
  have a7 : Blk w18 (B3 + 1) 25 (sec c1) := K.out.1 (B3 + 1, c1) (by simp)
  have a8 : Blk w18 (B4) 25 (sec c2) := K.out.1 (B4, c2) (by simp)
  have a9 : Blk w18 (B4 + 1) 25 (sec c1) := K.out.1 (B4 + 1, c1) (by simp)
  go_wp2_with ((with_reducible apply mks 63); decide; rfl; rfl; intro w19 hM)
  refine (of_long (some ⟨w18.heap.size, 0, none⟩) 63 63 (by decide) (by decide) _).mono ?_
  rintro e w20 ⟨rfl, hC⟩
  have hD := hM.trans (hC.mono hM.size)
  have hz := hD.size
  clear hM hC
  go_upto_region 13 with (first | ((with_reducible apply stx); rfl; rfl; (with_reducible exact (Blk.top zlit rfl).alloc _)) | ((with_reducible apply stx); rfl; rfl; (with_reducible exact (Blk.top zlit (by simp)).setRow_other (by omega) _)))
  generalize hwn : World.setRow (World.setRow (World.alloc (World.alloc w20 _) _) _ _) _ _ = w21
  have hE : Below w18.heap.size w18 w21 := by rw [← hwn]; exact below_setRow (below_setRow ((hD.alloc hz _).alloc (by simp; omega) _) hz _) (by omega) _
  clear hwn hD hz a1 a2 a3 a4 a5 a6 a7 a8 a9
  generalize w20.heap.size = B12 at *
  have hb := hb.trans (hE.mono hb.size)
  have K := HID (K.out.below hE)
  clear hE
  have a1 : Blk w21 (A) 25 (sec c1) := K.out.1 (A, c1) (by simp)
  have a2 : Blk w21 (A + 1) 25 (sec c2) := K.out.1 (A + 1, c2) (by simp)
  have a3 : Blk w21 (A + 1 + 1) 25 (sec c0) := K.out.1 (A + 1 + 1, c0) (by simp)
  have a4 : Blk w21 (B2) 25 (sec c3) := K.out.1 (B2, c3) (by simp)
  have a5 : Blk w21 (B2 + 1) 25 (sec c5) := K.out.1 (B2 + 1, c5) (by simp)
  have a6 : Blk w21 (B3) 25 (sec c1) := K.out.1 (B3, c1) (by simp)
  have a7 : Blk w21 (B3 + 1) 25 (sec c1) := K.out.1 (B3 + 1, c1) (by simp)
  have a8 : Blk w21 (B4) 25 (sec c2) := K.out.1 (B4, c2) (by simp)
  have a9 : Blk w21 (B4 + 1) 25 (sec c1) := K.out.1 (B4 + 1, c1) (by simp)
  go_wp2_with ((with_reducible apply mks 65); decide; rfl; rfl; intro w22 hM)
  refine (fix_long (some ⟨w21.heap.size, 0, none⟩) none 65 65 0 0 (fun _ => 0) (by decide) (by decide) (by decide) _ (fun h => absurd h (by decide)) (by decide) (by decide)).mono ?_
  rintro e w23 ⟨rfl, hC⟩
  have hE := hM.trans (hC.mono hM.size)
  clear hM hC
  have hb := hb.trans (hE.mono hb.size)
  have hK := K.out.below hE
  have K := HID hK
  clear hE hK a1 a2 a3 a4 a5 a6 a7 a8 a9
  have a1 : Blk w23 (A) 25 (sec c1) := K.out.1 (A, c1) (by simp)
  have a2 : Blk w23 (A + 1) 25 (sec c2) := K.out.1 (A + 1, c2) (by simp)
  have a3 : Blk w23 (A + 1 + 1) 25 (sec c0) := K.out.1 (A + 1 + 1, c0) (by simp)
  have a4 : Blk w23 (B2) 25 (sec c3) := K.out.1 (B2, c3) (by simp)
  have a5 : Blk w23 (B2 + 1) 25 (sec c5) := K.out.1 (B2 + 1, c5) (by simp)
  have a6 : Blk w23 (B3) 25 (sec c1) := K.out.1 (B3, c1) (by simp)
  have a7 : Blk w23 (B3 + 1) 25 (sec c1) := K.out.1 (B3 + 1, c1) (by simp)
  have a8 : Blk w23 (B4) 25 (sec c2) := K.out.1 (B4, c2) (by simp)
  have a9 : Blk w23 (B4 + 1) 25 (sec c1) := K.out.1 (B4 + 1, c1) (by simp)
  go_upto_region 14 with (fail)
  go_wp2_with (first | ((with_reducible apply ld); rfl; assumption) | ((with_reducible apply bldr z3 0 []); decide; (intro j k _ _; rfl); rfl))
  refine (change_bad z3 c1 62 (.inr (by decide)) _).mono ?_
  rintro e w24 ⟨rfl, hD⟩
  have hz := hD.size
  go_upto_region 15 with ((with_reducible apply str); rfl; rfl; exact Blk.top rfl rfl)
  generalize hwn : World.setRow (World.alloc w24 _) _ _ = w25
  have hE : Below w23.heap.size w23 w25 := by rw [← hwn]; exact below_setRow (hD.alloc hz _) hz _
  have hb := hb.trans (hE.mono hb.size)
  have K := HID (K.out.below hE)
  clear hwn hD hz hE a1 a2 a3 a4 a5 a6 a7 a8 a9
  generalize w24.heap.size = B14 at *
  have a1 : Blk w25 (A) 25 (sec c1) := K.out.1 (A, c1) (by simp)
  have a6 : Blk w25 (B3) 25 (sec c1) := K.out.1 (B3, c1) (by simp)
  have a7 : Blk w25 (B3 + 1) 25 (sec c1) := K.out.1 (B3 + 1, c1) (by simp)
  have a8 : Blk w25 (B4) 25 (sec c2) := K.out.1 (B4, c2) (by simp)
  have a9 : Blk w25 (B4 + 1) 25 (sec c1) := K.out.1 (B4 + 1, c1) (by simp)
  have e11 : eqS c1 c1 = true := eqS_yes fun _ _ => rfl
  have e22 : eqS c2 c2 = true := eqS_yes fun _ _ => rfl
  have e2f : eqS c2 (fun _ => 2) = true := e22
  have e1f : eqS c1 (fun _ => 1) = true := e11
  refine wp_region_tail (C := fun w' => Below w25.heap.size w25 w') 26 (by kernel_rfl) (by kernel_rfl) (by kernel_rfl) (Below.refl _ _).drew ?_
  simp only [List.take_succ_cons, List.take_zero, List.drop_succ_cons, List.drop_zero]
  apply kld
  · rfl
  · rfl
  · exact fun w' hw' => a6.below hw' a6.lt
  simp only [Act.put, List.setIfInBounds_toArray, List.set_cons_succ, List.set_cons_zero]
  apply kld
  · rfl
  · rfl
  · exact fun w' hw' => a1.below hw' a1.lt
  simp only [Act.put, List.setIfInBounds_toArray, List.set_cons_succ, List.set_cons_zero]
  apply wpK_val
  · rfl
  · intro w' hw'
    go_simp
    first | exact rfl | exact ⟨rfl, hw'⟩
  simp only [Act.put, List.setIfInBounds_toArray, List.set_cons_succ, List.set_cons_zero]
  apply wpK_val
  · rfl
  · intro w' hw'
    go_simp
    first | exact rfl | exact ⟨rfl, hw'⟩
  simp only [Act.put, List.setIfInBounds_toArray, List.set_cons_succ, List.set_cons_zero]
  apply kld
  · rfl
  · rfl
  · exact fun w' hw' => a7.below hw' a7.lt
  simp only [Act.put, List.setIfInBounds_toArray, List.set_cons_succ, List.set_cons_zero]
  apply kld
  · rfl
  · rfl
  · exact fun w' hw' => a1.below hw' a1.lt
  simp only [Act.put, List.setIfInBounds_toArray, List.set_cons_succ, List.set_cons_zero]
  apply wpK_val
  · rfl
  · intro w' hw'
    go_simp
    first | exact rfl | exact ⟨rfl, hw'⟩
  simp only [Act.put, List.setIfInBounds_toArray, List.set_cons_succ, List.set_cons_zero]
  apply wpK_val
  · rfl
  · intro w' hw'
    go_simp
    first | exact rfl | exact ⟨rfl, hw'⟩
  simp only [Act.put, List.setIfInBounds_toArray, List.set_cons_succ, List.set_cons_zero]
  apply wpK_val
  · rfl
  · intro w' hw'
    go_simp
    first | exact rfl | exact ⟨rfl, hw'⟩
  simp only [Act.put, List.setIfInBounds_toArray, List.set_cons_succ, List.set_cons_zero]
  apply wpK_val
  · rfl
  · intro w' hw'
    go_simp
    first | exact rfl | exact ⟨rfl, hw'⟩
  simp only [Act.put, List.setIfInBounds_toArray, List.set_cons_succ, List.set_cons_zero]
  apply wpK_val
  · rfl
  · intro w' hw'
    go_simp
    first | exact rfl | exact ⟨rfl, hw'⟩
  simp only [Act.put, List.setIfInBounds_toArray, List.set_cons_succ, List.set_cons_zero]
  apply wpK_val
  · rfl
  · intro w' hw'
    go_simp
    first | exact rfl | exact ⟨rfl, hw'⟩
  simp only [Act.put, List.setIfInBounds_toArray, List.set_cons_succ, List.set_cons_zero]
  apply wpK_val
  · rfl
  · intro w' hw'
    go_simp
    first | exact rfl | exact ⟨rfl, hw'⟩
  simp only [Act.put, List.setIfInBounds_toArray, List.set_cons_succ, List.set_cons_zero]
  apply kld
  · rfl
  · rfl
  · exact fun w' hw' => a8.below hw' a8.lt
  simp only [Act.put, List.setIfInBounds_toArray, List.set_cons_succ, List.set_cons_zero]
  apply wpK_val
  · rfl
  · intro w' hw'
    go_simp
    exact (filled_any 2 _).mono fun e w'' ⟨he, hb'⟩ => ⟨he, hw'.trans (hb'.mono hw'.size)⟩
  simp only [Act.put, List.setIfInBounds_toArray, List.set_cons_succ, List.set_cons_zero]
  apply wpK_val
  · rfl
  · intro w' hw'
    go_simp
    first | exact rfl | exact ⟨rfl, hw'⟩
  simp only [Act.put, List.setIfInBounds_toArray, List.set_cons_succ, List.set_cons_zero]
  apply wpK_val
  · rfl
  · intro w' hw'
    go_simp
    first | exact rfl | exact ⟨rfl, hw'⟩
  simp only [Act.put, List.setIfInBounds_toArray, List.set_cons_succ, List.set_cons_zero]
  apply wpK_val
  · rfl
  · intro w' hw'
    go_simp
    first | exact rfl | exact ⟨rfl, hw'⟩
  simp only [Act.put, List.setIfInBounds_toArray, List.set_cons_succ, List.set_cons_zero]
  apply kld
  · rfl
  · rfl
  · exact fun w' hw' => a9.below hw' a9.lt
  simp only [Act.put, List.setIfInBounds_toArray, List.set_cons_succ, List.set_cons_zero]
  apply wpK_val
  · rfl
  · intro w' hw'
    go_simp
    exact (filled_any 1 _).mono fun e w'' ⟨he, hb'⟩ => ⟨he, hw'.trans (hb'.mono hw'.size)⟩
  simp only [Act.put, List.setIfInBounds_toArray, List.set_cons_succ, List.set_cons_zero]
  apply wpK_val
  · rfl
  · intro w' hw'
    go_simp
    first | exact rfl | exact ⟨rfl, hw'⟩
  simp only [Act.put, List.setIfInBounds_toArray, List.set_cons_succ, List.set_cons_zero]
  apply wpK_val
  · rfl
  · intro w' hw'
    go_simp
    first | exact rfl | exact ⟨rfl, hw'⟩
  simp only [Act.put, List.setIfInBounds_toArray, List.set_cons_succ, List.set_cons_zero]
  apply wpK_val
  · rfl
  · intro w' hw'
    go_simp
    first | exact rfl | exact ⟨rfl, hw'⟩
  simp only [Act.put, List.setIfInBounds_toArray, List.set_cons_succ, List.set_cons_zero]
  apply wpK_val
  · rfl
  · intro w' hw'
    go_simp
    first | exact rfl | exact ⟨rfl, hw'⟩
  simp only [Act.put, List.setIfInBounds_toArray, List.set_cons_succ, List.set_cons_zero]
  apply wpK_val
  · rfl
  · intro w' hw'
    go_simp
    first | exact rfl | exact ⟨rfl, hw'⟩
  simp only [Act.put, List.setIfInBounds_toArray, List.set_cons_succ, List.set_cons_zero]
  apply wpK_val
  · rfl
  · intro w' hw'
    go_simp
    first | exact rfl | exact ⟨rfl, hw'⟩
  simp only [Act.put, List.setIfInBounds_toArray, List.set_cons_succ, List.set_cons_zero]
  refine wpK_nil fun w26 hw26 => ?_
  have hb := hb.trans (hw26.mono hb.size)
  have K := HID (K.out.below hw26)
  clear hw26 a1 a6 a7 a8 a9 e11 e22 e2f e1f
  have SAME := hid (show allS 4 (rowF 2 (lst [c1, c2])) (lst [c1, c2, c3, c5]) = true from allS_yes fun i hi k _ => by rw [row2 i hi])
  have R1 := hid (show rightA 4 (lst [c1, c2, c3, c5]) = true from (if_pos (by decide)).trans (rightB_yes fun k _ => ⟨by show 3 = (0 ^^^ 1) ^^^ 2; decide, by show 5 = (0 ^^^ GfM.mul (GfM.pw 0) 1) ^^^ GfM.mul (GfM.pw 1) 2; decide +kernel⟩))
  have R2 := hid (show rightA 4 (lst [c1, c2, c5, c3]) = false from (if_pos (by decide)).trans (rightB_no (k := 0) (by decide) (.inl (by show (5 : Nat) ≠ (0 ^^^ 1) ^^^ 2; decide))))
  have R3 := hid (show rightA 2 (lst [c1, c0]) = false from if_neg (by decide))
  go_wp2_with fail
  refine (same_any (some ⟨g6, 0, none⟩) (some ⟨B5, 0, none⟩) 4 cap6 4 (rowF 2 (lst [c1, c2])) (lst [c1, c2, c3, c5]) (by decide) w26 (K.out.2 (g6, rowF 2 (lst [c1, c2])) (by simp)) (K.out.2 (B5, lst [c1, c2, c3, c5]) (by simp))).mono ?_
  rintro e w27 ⟨rfl, m6, hm6⟩
  rw [SAME.out]
  have hE : Below w26.heap.size w26 w27 := by rw [hm6]; exact below_drewN (Below.refl _ _) m6
  have hb := hb.trans (hE.mono hb.size)
  have K := HID (K.out.below hE)
  clear hE hm6
  go_wp2_with fail
  refine (same_any (some ⟨g7, 0, none⟩) (some ⟨B5, 0, none⟩) 4 cap7 4 (rowF 2 (lst [c1, c2])) (lst [c1, c2, c3, c5]) (by decide) w27 (K.out.2 (g7, rowF 2 (lst [c1, c2])) (by simp)) (K.out.2 (B5, lst [c1, c2, c3, c5]) (by simp))).mono ?_
  rintro e w28 ⟨rfl, m7, hm7⟩
  rw [SAME.out]
  have hE : Below w27.heap.size w27 w28 := by rw [hm7]; exact below_drewN (Below.refl _ _) m7
  have hb := hb.trans (hE.mono hb.size)
  have K := HID (K.out.below hE)
  clear hE hm7
  go_wp2_with fail
  refine (same_any (some ⟨g8, 0, none⟩) (some ⟨B5, 0, none⟩) 4 cap8 4 (rowF 2 (lst [c1, c2])) (lst [c1, c2, c3, c5]) (by decide) w28 (K.out.2 (g8, rowF 2 (lst [c1, c2])) (by simp)) (K.out.2 (B5, lst [c1, c2, c3, c5]) (by simp))).mono ?_
  rintro e w29 ⟨rfl, m8, hm8⟩
  rw [SAME.out]
  have hE : Below w28.heap.size w28 w29 := by rw [hm8]; exact below_drewN (Below.refl _ _) m8
  have hb := hb.trans (hE.mono hb.size)
  have K := HID (K.out.below hE)
  clear hE hm8
  have a1 : Blk w29 (A) 25 (sec c1) := K.out.1 (A, c1) (by simp)
  have a2 : Blk w29 (A + 1) 25 (sec c2) := K.out.1 (A + 1, c2) (by simp)
  have a3 : Blk w29 (A + 1 + 1) 25 (sec c0) := K.out.1 (A + 1 + 1, c0) (by simp)
  have a4 : Blk w29 (B2) 25 (sec c3) := K.out.1 (B2, c3) (by simp)
  have a5 : Blk w29 (B2 + 1) 25 (sec c5) := K.out.1 (B2 + 1, c5) (by simp)
  go_wp2_with fail
  refine (right_any (some ⟨B5, 0, none⟩) 4 4 (lst [c1, c2, c3, c5]) (k_lt _ (by simp)) (by decide) (by decide) w29 (K.out.2 (B5, lst [c1, c2, c3, c5]) (by simp))).mono ?_
  rintro e w30 ⟨rfl, hE⟩
  rw [R1.out]
  have hb := hb.trans (hE.mono hb.size)
  have a1 := a1.below hE a1.lt
  have a2 := a2.below hE a2.lt
  have a3 := a3.below hE a3.lt
  have a4 := a4.below hE a4.lt
  have a5 := a5.below hE a5.lt
  clear hE
  go_wp2_with (first | ((with_reducible apply ldg); rfl; rfl; with_reducible first | exact a1 | exact a2 | exact a3 | exact a4 | exact a5) | ((with_reducible apply wlitg (lst [c1, c2, c5, c3]) [c1, c2, c5, c3]); rfl; rfl; rfl; decide; decide; rfl))
  refine (right_any (some ⟨w30.heap.size, 0, none⟩) 4 4 (lst [c1, c2, c5, c3]) (k_lt _ (by simp)) (by decide) (by decide) _ lit_secs).mono ?_
  rintro e w31 ⟨rfl, hE'⟩
  rw [R2.out]
  have hE : Below w30.heap.size w30 w31 := ((Below.refl _ _).alloc (Nat.le_refl _) _).trans (hE'.mono (by simp))
  have hb := hb.trans (hE.mono hb.size)
  have a1 := a1.below hE a1.lt
  have a3 := a3.below hE a3.lt
  clear hE hE' a2 a4 a5
  go_wp2_with (first | ((with_reducible apply ldg); rfl; rfl; with_reducible first | exact a1 | exact a3) | ((with_reducible apply wlitg (lst [c1, c0]) [c1, c0]); rfl; rfl; rfl; decide; decide; rfl))
  refine (right_any (some ⟨w31.heap.size, 0, none⟩) 2 2 (lst [c1, c0]) (k_lt _ (by simp)) (by decide) (by decide) _ lit_secs).mono ?_
  rintro e w32 ⟨rfl, hE'⟩
  rw [R3.out]
  have hE : Below w31.heap.size w31 w32 := ((Below.refl _ _).alloc (Nat.le_refl _) _).trans (hE'.mono (by simp))
  have hb := hb.trans (hE.mono hb.size)
  clear hE hE' a1 a3
  go_wp2_with fail
  refine (works_any w32).mono ?_
  rintro e w33 ⟨rfl, hE⟩
  have hb := hb.trans (hE.mono hb.size)
  clear hE
  go_wp2_with fail
  go_ret
  exact ⟨rfl, hb⟩
end Go.Proofs.Ytkdnkppkmjgihaa
