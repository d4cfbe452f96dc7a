/-
  Contract of sha.passes over this translation.
-/
import Derived.Test.YtcpoccahneppiaaDoorShaPass
namespace Go.Proofs.YtcpoccahneppiaaDoor
open Go.ChangeShapes Go.WideShapes Go.ChangeAt Go.RowKit
attribute [local go_sem] Gives
def B256 (l : List Nat) : Prop := ∀ x ∈ l, x < 256
theorem B256.at' {l : List Nat} (h : B256 l) (k : Nat) : ShaM.at' l k < 256 := ShaM.getD_lt (by omega) h k
theorem B256.take {l : List Nat} (h : B256 l) (n : Nat) : B256 (l.take n) := fun x hx => h x (List.mem_of_mem_take hx)
theorem B256.drop {l : List Nat} (h : B256 l) (n : Nat) : B256 (l.drop n) := fun x hx => h x (List.mem_of_mem_drop hx)
theorem B256.append {l k : List Nat} (h : B256 l) (h' : B256 k) : B256 (l ++ k) := fun x hx => (List.mem_append.1 hx).elim (h x) (h' x)
theorem getD_take {l : List Nat} {n i : Nat} (h : i < n) : (l.take n).getD i 0 = l.getD i 0 := by
  rw [List.getD_eq_getElem?_getD, List.getD_eq_getElem?_getD, List.getElem?_take_of_lt h]
theorem getD_drop {l : List Nat} {n i : Nat} : (l.drop n).getD i 0 = l.getD (n + i) 0 := by
  rw [List.getD_eq_getElem?_getD, List.getD_eq_getElem?_getD, List.getElem?_drop]
theorem Byt.take {w : World} {B : Nat} {A : Option Addr} {l : List Nat} (h : Byt w B A l) (n : Nat) : Byt w B A (l.take n) := fun hn => by
  rw [List.length_take] at hn
  obtain ⟨b, o, rfl, hl, hr⟩ := h (by omega)
  refine ⟨b, o, rfl, hl, fun i hi => ?_⟩
  rw [List.length_take] at hi
  rw [getD_take (by omega)]
  exact hr i (by omega)
theorem Byt.drop {w : World} {B b o : Nat} {l : List Nat} (h : Byt w B (some ⟨b, o, none⟩) l) (n : Nat) : Byt w B (some ⟨b, o + n, none⟩) (l.drop n) := fun hn => by
  rw [List.length_drop] at hn
  obtain ⟨b', o', e, hl, hr⟩ := h (by omega)
  cases e
  refine ⟨b, o + n, rfl, hl, fun i hi => ?_⟩
  rw [List.length_drop] at hi
  rw [getD_drop, Nat.add_assoc]
  exact hr (n + i) (by omega)
theorem Byt.none {w : World} {B : Nat} {A : Option Addr} {l : List Nat} (h : l.length = 0) : Byt w B A l := fun hn => by omega
def lenOf : Value → Nat
  | .slice _ n _ => n
  | _ => 0
set_option maxHeartbeats 400000 in
set_option maxRecDepth 100000 in
theorem passes_any (s : ShaM.S8) (hs : s.ok) (A : Option Addr) (l : List Nat) (n cap : Nat) (hl : l.length = n) (hc : n ≤ cap) (hm : cap ≤ maxLen) (hb : B256 l) (w : World) (hA : Byt w w.heap.size A l) (hS : Salts w) :
    Calls Tryd.prog 27 #[.agg (num8 s.get), .slice A n cap] w fun e w' => e = .returned (.agg (num8 (ShaM.passes s l).get)) ∧ Below w.heap.size w w' := by
  unfold maxLen at hm
  have HS := hid hs
  have HB := hid hb
  have HA := hid hA
  have SA := hid hS
  have HL := hid hl
  clear hs hb hA hS hl
  go_enter Tryd.func27, Tryd.ntmps27
  go_wp2_with fail
  generalize hw3 : World.alloc (World.alloc w _) _ = w3
  have b1 : Blk w3 w.heap.size 27 (num8 s.get) := by rw [← hw3]; exact (Blk.top rfl rfl).alloc _
  have b2 : Blk w3 (w.heap.size + 1) 27 (num8 fun _ => 0) := by rw [← hw3]; exact Blk.top zlit8 (by simp)
  have hb : Below w.heap.size w w3 := by rw [← hw3]; exact ((Below.refl _ _).alloc (Nat.le_refl _) _).alloc (by simp) _
  clear hw3
  have ha := HA.out.below hb (Nat.le_refl _)
  go_loopw [1] (fun v wr => ∃ (A' : Option Addr) (l' : List Nat) (n' cap' : Nat) (s' : ShaM.S8), v = .slice A' n' cap' ∧ Hid (l'.length = n') ∧ n' ≤ cap' ∧ cap' ≤ 9223372036854775807 ∧ Hid (B256 l') ∧ Hid s'.ok ∧ Hid (ShaM.passes s' l' = ShaM.passes s l) ∧
    Byt wr w.heap.size A' l' ∧ Blk wr w.heap.size 27 (num8 s'.get) ∧ Blk wr (w.heap.size + 1) 27 (num8 fun _ => 0) ∧ Below w.heap.size w wr) (fun v _ => lenOf v)
  case atStart => exact ⟨A, l, n, cap, s, rfl, HL, hc, by omega, HB, HS, hid rfl, ha, b1, b2, hb⟩
  case round =>
    clear ha b1 b2 hb
    obtain ⟨A', l', n', cap', s', rfl, hl, hc', hm', hb', hs', hp, ha, b1, b2, hb⟩ := hrel
    by_cases hlt : 64 ≤ n'
    · have t0 : decide ((64 : Int) ≤ (n' : Int)) = true := by simp; omega
      obtain ⟨b, o, rfl, hbB, hr⟩ := ha (by have := hl.out; omega)
      clear hr
      have HA' := hid ha
      have B1 := hid b1
      have B2 := hid b2
      have BEL := hid hb
      clear ha b1 b2 hb
      go_wp2_with fail
      refine wp_region_tail (C := fun w' => Below wr.heap.size wr w') 4 (by kernel_rfl) (by kernel_rfl) (by kernel_rfl) (Below.refl _ _).drew ?_
      simp only [List.take_succ_cons, List.take_zero, List.drop_succ_cons, List.drop_zero]
      have hc64 : (64 : Int) ≤ (cap' : Int) := by omega
      apply kln
      · rfl
      · rfl
      · exact fun w' hw' => B1.out.below hw' B1.out.lt
      simp only [Act.put, List.setIfInBounds_toArray, List.set_cons_succ, List.set_cons_zero]
      apply wpK_val
      · rfl
      · intro w' hw'
        go_simp
        first | exact rfl | exact ⟨rfl, hw'⟩
      simp only [Act.put, List.setIfInBounds_toArray, List.set_cons_succ, List.set_cons_zero]
      apply wpK_val
      · rfl
      · intro w' hw'
        go_simp
        first | exact rfl | exact ⟨rfl, hw'⟩
      simp only [Act.put, List.setIfInBounds_toArray, List.set_cons_succ, List.set_cons_zero]
      apply wpK_val
      · rfl
      · intro w' hw'
        go_simp
        exact (pass_any s' hs'.out _ (l'.take 64) cap' (by rw [List.length_take]; have := hl.out; omega) (fun k => (hb'.out.take 64).at' k) _ (((HA'.out.take 64).below (hw'.mono BEL.out.size) (Nat.le_refl _)).more (Nat.le_trans BEL.out.size hw'.size)) (SA.out.on (BEL.out.trans (hw'.mono BEL.out.size)))).mono fun e w'' ⟨he, hb''⟩ => ⟨he, hw'.trans (hb''.mono hw'.size)⟩
      simp only [Act.put, List.setIfInBounds_toArray, List.set_cons_succ, List.set_cons_zero]
      refine wpK_nil fun w4 hw4 => ?_
      have b1 := B1.out.below hw4 B1.out.lt
      have b2 := B2.out.below hw4 B2.out.lt
      have bel := BEL.out.trans (hw4.mono BEL.out.size)
      have ha := HA'.out.below (hw4.mono BEL.out.size) (Nat.le_refl _)
      have B2 := hid b2
      have BEL := hid bel
      have HA' := hid ha
      clear b2 bel ha
      go_wp2_with ((with_reducible apply stn); rfl; rfl; exact b1)
      have hl' := hl.out
      have e1 : ShaM.pass s' (ShaM.at' (List.take 64 l')) = ShaM.pass s' (ShaM.at' l') := ShaM.pass_congr s' fun k hk => getD_take hk
      go_roundw
      case rel =>
        refine ⟨_, l'.drop 64, n' - 64, cap' - 64, ShaM.pass s' (ShaM.at' l'), rfl, hid (by rw [List.length_drop]; omega), by omega, by omega, hid (hb'.out.drop 64), hid (ShaM.pass_ok _ _), hid ?_, ?_, ?_, ?_, ?_⟩
        · rw [← hp.out, ShaM.passes_long (l := l') (by omega)]
        · have hd := (HA'.out.below (below_setRow (Below.refl w.heap.size w4) (Nat.le_refl _) (num8 (ShaM.pass s' (ShaM.at' (List.take 64 l'))).get)) (Nat.le_refl _)).drop 64
          by_cases h64 : cap' = 64
          · exact Byt.none (by rw [List.length_drop]; omega)
          · rw [if_neg h64]; exact hd
        · rw [e1]; exact b1.setRow_same _
        · exact B2.out.setRow_other (by omega) _
        · exact below_setRow BEL.out (Nat.le_refl _) _
      case measure => simp [lenOf]; omega
    · have t0 : decide ((64 : Int) ≤ (n' : Int)) = false := by simp; omega
      have hf : ShaM.passes s l = s' := by rw [← hp.out, ShaM.passes_short (by have := hl.out; omega)]
      have HF := hid hf
      clear hf ha
      go_wp2_with (first | ((with_reducible apply ldn); rfl; assumption) | ((with_reducible apply stn); rfl; rfl; assumption))
      apply ret_row Tryd.results27
      · exact b2.setRow_same _
      · exact Tryd.underlying27
      · rfl
      · exact (info_num8.trans (by rw [size_num8]))
      · rfl
      · rfl
      exact ⟨by rw [HF.out], below_setRow hb (by omega) _⟩
end Go.Proofs.YtcpoccahneppiaaDoor
