/-
  Contract of sha.finish over this translation.
-/
import Derived.Test.YtcpoccahneppiaaDoorShaDigest
import Derived.Laws.CopyOwn
import Derived.Deep.WholeRow
namespace Go.Proofs.YtcpoccahneppiaaDoor
open Go.ChangeShapes Go.WideShapes Go.ChangeAt Go.RowKit
attribute [local go_sem] Gives
/-- n bytes. -/
def bts (n : Nat) (f : Nat → Nat) : Array Value := row n fun j => .int .u8 (f j : Nat)
theorem size_bts {n : Nat} {f : Nat → Nat} : (bts n f).size = n := size_row
theorem get_bts {n : Nat} {f : Nat → Nat} {k : Nat} (h : k < n) : (bts n f)[k]? = some (.int .u8 (f k : Nat)) := get_row_lt h
theorem bts_ext {n : Nat} {f g : Nat → Nat} (h : ∀ k, k < n → f k = g k) : bts n f = bts n g := row_ext fun k hk => by rw [h k hk]
theorem bts_set {n : Nat} {f : Nat → Nat} {k v : Nat} : (bts n f).setIfInBounds k (.int .u8 (v : Nat)) = bts n fun j => if j = k then v else f j := by
  unfold bts
  rw [row_set]
  exact row_ext fun j _ => by by_cases e : j = k <;> simp [e]
theorem bts_one {n : Nat} {f : Nat → Nat} : (bts n f).all (·.oneCell') = true := row_one fun _ _ => rfl
theorem zero128 (w : World) : (zeroValue 72).run Tryd.prog w = .ok (.agg (bts 128 fun _ => 0)) w :=
  (zero_of_info (P := Tryd.prog) (t := 72) (v := .agg (bts 128 fun _ => 0)) (n := 128) (by kernel_rfl)).1 w
theorem Blk.byt {w : World} {B g n : Nat} {t : TypeId} {f : Nat → Nat} (h : Blk w g t (bts n f)) (hg : g < B) {l : List Nat} (hl : l.length ≤ n) (he : ∀ j, j < l.length → l.getD j 0 = f j) : Byt w B (some ⟨g, 0, none⟩) l := fun _ =>
  ⟨g, 0, rfl, hg, fun i hi => by rw [Nat.zero_add, h.cell, get_bts (by omega), he i hi]⟩
section
variable {ops : Array Oper} {Q : Exit → Act → World → Prop} {a : Act} {w : World} {rest : List Oper} {dst : Option Tmp} {ty : TypeId} {pos : String} {after : Array Edge} {d s : Operand}
/-- copy of up to n bytes to the front of a block. -/
theorem wcopy {A : Option Addr} {n m cap g B cap' : Nat} {t : TypeId} {l : List Nat} {f : Nat → Nat} (hd : a.eval d = .slice (some ⟨g, 0, none⟩) m cap') (hs : a.eval s = .slice A n cap) (hg : Blk w g t (bts m f)) (hA : Byt w B A l) (hl : l.length = n) (hnm : n ≤ m)
    (h : wpList Tryd.prog ops Q rest (a.put dst (goInt n)) (w.setRow g (bts m fun j => if j < n then ShaM.at' l j else f j))) :
    wpList Tryd.prog ops Q (⟨dst, .call { callee := .builtin .copy, args := #[d, s], argTypes := #[22, 22] }, ty, pos, after, none⟩ :: rest) a w := by
  by_cases h0 : n = 0
  · subst h0
    refine wpList_copy_nothing rfl d s 22 22 rfl 5 Tryd.underlying22 (by kernel_rfl) _ _ _ _ _ _ hd hs (Nat.zero_min _) ?_
    rw [bts_ext (g := f) fun k _ => if_neg (Nat.not_lt_zero _), hg.setRow_id] at h
    exact h
  · obtain ⟨b, o, rfl, hB, hr⟩ := hA (by omega)
    have hlen : (bts n fun j => ShaM.at' l j).toList.length = n := by rw [Array.length_toList, size_bts]
    refine wpList_copy_own rfl d s 22 22 rfl 5 Tryd.underlying22 (by kernel_rfl) g 0 m cap' ⟨b, o, none⟩ n cap hd hs (bts m f) t hg (bts n fun j => ShaM.at' l j).toList (by rw [hlen]; exact (Nat.min_eq_left hnm).symm) ?_ (by rw [hlen, size_bts]; omega) ?_ ?_
    · intro j v hj
      have hjn : j < n := by have := (List.getElem?_eq_some_iff.1 hj).1; rwa [hlen] at this
      rw [Array.getElem?_toList, get_bts hjn] at hj
      rw [← hj, Addr.add_mid]
      exact hr j (by omega)
    · intro v hv
      exact (Array.all_eq_true_iff_forall_mem.1 bts_one) v (by simpa using hv)
    · rw [hlen]
      have e : (List.take 0 (bts m f).toList ++ ((bts n fun j => ShaM.at' l j).toList ++ (bts m f).toList.drop (0 + n))).toArray = bts m fun j => if j < n then ShaM.at' l j else f j := by
        apply Array.ext_getElem?
        intro k
        rw [List.getElem?_toArray, List.take_zero, List.nil_append, List.getElem?_append, hlen, Nat.zero_add]
        by_cases hk : k < n
        · rw [if_pos hk, Array.getElem?_toList, get_bts hk, get_bts (by omega), if_pos hk]
        · rw [if_neg hk, List.getElem?_drop, Array.getElem?_toList, show n + (k - n) = k by omega]
          unfold bts
          simp only [get_row, if_neg hk]
      rw [e]
      exact h
end
theorem info_b128 : (Tryd.prog.info? 72).map (·.size) = some 128 := by kernel_rfl
set_option maxHeartbeats 400000 in
set_option maxRecDepth 100000 in
theorem finish_short (s : ShaM.S8) (hs : s.ok) (A : Option Addr) (l : List Nat) (n cap size : Nat) (hl : l.length = n) (hn : n < 64) (hcond : n + 9 ≤ 64) (hsz : size % 64 = n) (hm : size ≤ 1000000000000000) (hb : B256 l) (w : World) (hA : Byt w w.heap.size A l) (hS : Salts w) :
    Calls Tryd.prog 29 #[.agg (num8 s.get), .slice A n cap, .int .i64 size] w fun e w' => e = .returned (.agg (num8 (ShaM.passes s (l ++ ShaM.tail size)).get)) ∧ Below w.heap.size w w' := by
  have HS := hid hs
  have HB := hid hb
  have HA := hid hA
  have SA := hid hS
  have HL := hid hl
  have HZ := hid hsz
  clear hs hb hA hS hl hsz
  have tn : (n : Int) < 64 := by omega
  have hZ := zero128
  go_enter Tryd.func29, Tryd.ntmps29
  go_upto_region 2 with fail
  clear hZ
  generalize hw3 : World.alloc (World.alloc (World.alloc w _) _) _ = w3
  have b1 : Blk w3 w.heap.size 27 (num8 s.get) := by rw [← hw3]; exact ((Blk.top rfl rfl).alloc _).alloc _
  have b2 : Blk w3 (w.heap.size + 1) 27 (num8 fun _ => 0) := by rw [← hw3]; exact (Blk.top zlit8 (by simp)).alloc _
  have b3 : Blk w3 (w.heap.size + 2) 72 (bts 128 fun _ => 0) := by rw [← hw3]; exact Blk.top rfl (by simp)
  have hb : Below w.heap.size w w3 := by rw [← hw3]; exact (((Below.refl _ _).alloc (Nat.le_refl _) _).alloc (by simp) _).alloc (by simp; omega) _
  clear hw3
  have ha := (HA.out.below hb (Nat.le_refl _))
  go_upto_region 3 with ((with_reducible apply wcopy); rfl; rfl; exact b3; exact ha; exact HL.out; omega)
  generalize hw4 : World.setRow _ _ _ = w4
  have c3 : Blk w4 (w.heap.size + 2) 72 (bts 128 fun j => if j < n then ShaM.at' l j else 0) := by rw [← hw4]; exact b3.setRow_same _
  have c1 : Blk w4 w.heap.size 27 (num8 s.get) := by rw [← hw4]; exact b1.setRow_other (by omega) _
  have c2 : Blk w4 (w.heap.size + 1) 27 (num8 fun _ => 0) := by rw [← hw4]; exact b2.setRow_other (by omega) _
  have cb : Below w.heap.size w w4 := by rw [← hw4]; exact below_setRow hb (by omega) _
  clear hw4 b1 b2 b3 hb ha w3
  have q1 := (c3.cell n).trans (get_bts (by omega))
  have q3 := c3.frozen n
  have C1 := hid c1
  have C2 := hid c2
  have C3 := hid c3
  have CB := hid cb
  clear c1 c2 c3 cb
  go_upto_region 4 with fail
  clear q1 q3
  generalize hw5 : World.setCell _ _ _ = w5
  have c3 : Blk w5 (w.heap.size + 2) 72 (bts 128 (ShaM.fin l size 64 0)) := by
    rw [← hw5]
    have h := C3.out.setCell_same n (.int .u8 (128 : Nat))
    rw [bts_set] at h
    rw [← ShaM.fin_zero, HL.out]
    exact h
  have c1 : Blk w5 w.heap.size 27 (num8 s.get) := by rw [← hw5]; exact C1.out.setCell_other (by show w.heap.size + 1 + 1 ≠ w.heap.size; omega) _
  have c2 : Blk w5 (w.heap.size + 1) 27 (num8 fun _ => 0) := by rw [← hw5]; exact C2.out.setCell_other (by simp) _
  have cb : Below w.heap.size w w5 := by rw [← hw5]; exact CB.out.setCell (by show w.heap.size ≤ w.heap.size + 1 + 1; omega) _
  clear hw5 C1 C2 C3 CB w4
  go_wp2_with fail
  go_loopw [24] (fun v wr => ∃ i : Nat, i ≤ 8 ∧ v = .int .i64 i ∧ Blk wr (w.heap.size + 2) 72 (bts 128 (ShaM.fin l size 64 i)) ∧ Blk wr w.heap.size 27 (num8 s.get) ∧
    Blk wr (w.heap.size + 1) 27 (num8 fun _ => 0) ∧ Below w.heap.size w wr) (fun v _ => 8 - (intOf v).toNat)
  case atStart => exact ⟨0, by omega, rfl, c3, c1, c2, cb⟩
  case round =>
    clear c1 c2 c3 cb
    obtain ⟨i, hi, rfl, c3, c1, c2, cb⟩ := hrel
    by_cases hlt : i < 8
    · have ti : (i : Int) < 8 := by omega
      obtain ⟨c, hc⟩ : ∃ c, c = 64 - 1 - i := ⟨_, rfl⟩
      have e1 : IntKind.i64.wrap (63 - (i : Int)) = (c : Int) := wr_nat (by omega) (by omega)
      have e2 : 63 - (i : Int) = (c : Int) := by omega
      have hci : (c : Int) < 128 := by omega
      have HC := hid hc
      have hc128 : c < 128 := by omega
      clear hc
      have q1 := (c3.cell c).trans (get_bts hc128)
      have q3 := c3.frozen c
      have C1 := hid c1
      have C2 := hid c2
      have C3 := hid c3
      have CB := hid cb
      clear c1 c2 c3 cb
      go_wp2_with fail
      go_roundw
      case rel =>
        refine ⟨i + 1, by omega, by go_num, ?_, C1.out.setCell_other (by show w.heap.size + 1 + 1 ≠ w.heap.size; omega) _, C2.out.setCell_other (by show w.heap.size + 1 + 1 ≠ w.heap.size + 1; omega) _, CB.out.setCell (by show w.heap.size ≤ w.heap.size + 1 + 1; omega) _⟩
        have h := C3.out.setCell_same c (.int .u8 (8 * size / 2 ^ (8 * i) % 256 : Nat))
        rw [bts_set, ShaM.fin_step l (by have := HL.out; omega) hlt (by have := HC.out; omega)] at h
        rw [show (8 * (size : Int) / 2 ^ (8 * i) % 256) = ((8 * size / 2 ^ (8 * i) % 256 : Nat) : Int) by simp]
        exact h
      case measure => simp [intOf]; omega
    · have ti : decide ((i : Int) < 8) = false := by simp; omega
      rw [show i = 8 by omega] at c3
      have h64 : 64 = if l.length + 9 ≤ 64 then 64 else 128 := by have := HL.out; split <;> omega
      have hlen : (l ++ ShaM.tail size).length = 64 := ShaM.ended_length (by rw [HL.out]; exact HZ.out) h64
      have hby : Byt wr (w.heap.size + 3) (some ⟨w.heap.size + 2, 0, none⟩) (l ++ ShaM.tail size) := c3.byt (by omega) (by omega) fun j hj => ShaM.ended_get (by rw [HL.out]; exact HZ.out) h64 (by omega)
      have C1 := hid c1
      have C2 := hid c2
      have C3 := hid c3
      have CB := hid cb
      have HLEN := hid hlen
      have BY := hid hby
      clear c1 c2 c3 cb h64 hlen hby
      go_wp2_with fail
      refine wp_region_tail (C := fun w' => Below wr.heap.size wr w') 4 (by kernel_rfl) (by kernel_rfl) (by kernel_rfl) (Below.refl _ _).drew ?_
      simp only [List.take_succ_cons, List.take_zero, List.drop_succ_cons, List.drop_zero]
      apply kln
      · rfl
      · rfl
      · exact fun w' hw' => C1.out.below hw' C1.out.lt
      simp only [Act.put, List.setIfInBounds_toArray, List.set_cons_succ, List.set_cons_zero]
      apply wpK_val
      · rfl
      · intro w' hw'
        go_simp
        first | exact rfl | exact ⟨rfl, hw'⟩
      simp only [Act.put, List.setIfInBounds_toArray, List.set_cons_succ, List.set_cons_zero]
      apply wpK_val
      · rfl
      · intro w' hw'
        go_simp
        first | exact rfl | exact ⟨rfl, hw'⟩
      simp only [Act.put, List.setIfInBounds_toArray, List.set_cons_succ, List.set_cons_zero]
      apply wpK_val
      · rfl
      · intro w' hw'
        go_simp
        exact (passes_any s HS.out _ (l ++ ShaM.tail size) 64 128 HLEN.out (by omega) (by unfold maxLen; omega) (HB.out.append (ShaM.tail_256 size)) _ (((BY.out.below hw' (by have := C3.out.lt; omega)).more (Nat.le_trans (by have := C3.out.lt; omega) hw'.size))) (SA.out.on (CB.out.trans (hw'.mono CB.out.size)))).mono fun e w'' ⟨he, hb''⟩ => ⟨he, hw'.trans (hb''.mono hw'.size)⟩
      simp only [Act.put, List.setIfInBounds_toArray, List.set_cons_succ, List.set_cons_zero]
      refine wpK_nil fun w4 hw4 => ?_
      have c2 := C2.out.below hw4 C2.out.lt
      have cb := CB.out.trans (hw4.mono CB.out.size)
      go_wp2_with ((with_reducible apply stn); rfl; rfl; exact c2)
      apply ret_row Tryd.results29
      · exact c2.setRow_same _
      · exact Tryd.underlying27
      · rfl
      · exact (info_num8.trans (by rw [size_num8]))
      · rfl
      · rfl
      exact ⟨rfl, below_setRow cb (by omega) _⟩
set_option maxHeartbeats 400000 in
set_option maxRecDepth 100000 in
theorem finish_long (s : ShaM.S8) (hs : s.ok) (A : Option Addr) (l : List Nat) (n cap size : Nat) (hl : l.length = n) (hn : n < 64) (hcond : 64 < n + 9) (hsz : size % 64 = n) (hm : size ≤ 1000000000000000) (hb : B256 l) (w : World) (hA : Byt w w.heap.size A l) (hS : Salts w) :
    Calls Tryd.prog 29 #[.agg (num8 s.get), .slice A n cap, .int .i64 size] w fun e w' => e = .returned (.agg (num8 (ShaM.passes s (l ++ ShaM.tail size)).get)) ∧ Below w.heap.size w w' := by
  have HS := hid hs
  have HB := hid hb
  have HA := hid hA
  have SA := hid hS
  have HL := hid hl
  have HZ := hid hsz
  clear hs hb hA hS hl hsz
  have tn : (n : Int) < 64 := by omega
  have hZ := zero128
  go_enter Tryd.func29, Tryd.ntmps29
  go_upto_region 2 with fail
  clear hZ
  generalize hw3 : World.alloc (World.alloc (World.alloc w _) _) _ = w3
  have b1 : Blk w3 w.heap.size 27 (num8 s.get) := by rw [← hw3]; exact ((Blk.top rfl rfl).alloc _).alloc _
  have b2 : Blk w3 (w.heap.size + 1) 27 (num8 fun _ => 0) := by rw [← hw3]; exact (Blk.top zlit8 (by simp)).alloc _
  have b3 : Blk w3 (w.heap.size + 2) 72 (bts 128 fun _ => 0) := by rw [← hw3]; exact Blk.top rfl (by simp)
  have hb : Below w.heap.size w w3 := by rw [← hw3]; exact (((Below.refl _ _).alloc (Nat.le_refl _) _).alloc (by simp) _).alloc (by simp; omega) _
  clear hw3
  have ha := (HA.out.below hb (Nat.le_refl _))
  go_upto_region 3 with ((with_reducible apply wcopy); rfl; rfl; exact b3; exact ha; exact HL.out; omega)
  generalize hw4 : World.setRow _ _ _ = w4
  have c3 : Blk w4 (w.heap.size + 2) 72 (bts 128 fun j => if j < n then ShaM.at' l j else 0) := by rw [← hw4]; exact b3.setRow_same _
  have c1 : Blk w4 w.heap.size 27 (num8 s.get) := by rw [← hw4]; exact b1.setRow_other (by omega) _
  have c2 : Blk w4 (w.heap.size + 1) 27 (num8 fun _ => 0) := by rw [← hw4]; exact b2.setRow_other (by omega) _
  have cb : Below w.heap.size w w4 := by rw [← hw4]; exact below_setRow hb (by omega) _
  clear hw4 b1 b2 b3 hb ha w3
  have q1 := (c3.cell n).trans (get_bts (by omega))
  have q3 := c3.frozen n
  have C1 := hid c1
  have C2 := hid c2
  have C3 := hid c3
  have CB := hid cb
  clear c1 c2 c3 cb
  go_upto_region 4 with fail
  clear q1 q3
  generalize hw5 : World.setCell _ _ _ = w5
  have c3 : Blk w5 (w.heap.size + 2) 72 (bts 128 (ShaM.fin l size 128 0)) := by
    rw [← hw5]
    have h := C3.out.setCell_same n (.int .u8 (128 : Nat))
    rw [bts_set] at h
    rw [← ShaM.fin_zero, HL.out]
    exact h
  have c1 : Blk w5 w.heap.size 27 (num8 s.get) := by rw [← hw5]; exact C1.out.setCell_other (by show w.heap.size + 1 + 1 ≠ w.heap.size; omega) _
  have c2 : Blk w5 (w.heap.size + 1) 27 (num8 fun _ => 0) := by rw [← hw5]; exact C2.out.setCell_other (by simp) _
  have cb : Below w.heap.size w w5 := by rw [← hw5]; exact CB.out.setCell (by show w.heap.size ≤ w.heap.size + 1 + 1; omega) _
  clear hw5 C1 C2 C3 CB w4
  go_wp2_with fail
  go_loopw [24] (fun v wr => ∃ i : Nat, i ≤ 8 ∧ v = .int .i64 i ∧ Blk wr (w.heap.size + 2) 72 (bts 128 (ShaM.fin l size 128 i)) ∧ Blk wr w.heap.size 27 (num8 s.get) ∧
    Blk wr (w.heap.size + 1) 27 (num8 fun _ => 0) ∧ Below w.heap.size w wr) (fun v _ => 8 - (intOf v).toNat)
  case atStart => exact ⟨0, by omega, rfl, c3, c1, c2, cb⟩
  case round =>
    clear c1 c2 c3 cb
    obtain ⟨i, hi, rfl, c3, c1, c2, cb⟩ := hrel
    by_cases hlt : i < 8
    · have ti : (i : Int) < 8 := by omega
      obtain ⟨c, hc⟩ : ∃ c, c = 128 - 1 - i := ⟨_, rfl⟩
      have e1 : IntKind.i64.wrap (127 - (i : Int)) = (c : Int) := wr_nat (by omega) (by omega)
      have e2 : 127 - (i : Int) = (c : Int) := by omega
      have hci : (c : Int) < 128 := by omega
      have HC := hid hc
      have hc128 : c < 128 := by omega
      clear hc
      have q1 := (c3.cell c).trans (get_bts hc128)
      have q3 := c3.frozen c
      have C1 := hid c1
      have C2 := hid c2
      have C3 := hid c3
      have CB := hid cb
      clear c1 c2 c3 cb
      go_wp2_with fail
      go_roundw
      case rel =>
        refine ⟨i + 1, by omega, by go_num, ?_, C1.out.setCell_other (by show w.heap.size + 1 + 1 ≠ w.heap.size; omega) _, C2.out.setCell_other (by show w.heap.size + 1 + 1 ≠ w.heap.size + 1; omega) _, CB.out.setCell (by show w.heap.size ≤ w.heap.size + 1 + 1; omega) _⟩
        have h := C3.out.setCell_same c (.int .u8 (8 * size / 2 ^ (8 * i) % 256 : Nat))
        rw [bts_set, ShaM.fin_step l (by have := HL.out; omega) hlt (by have := HC.out; omega)] at h
        rw [show (8 * (size : Int) / 2 ^ (8 * i) % 256) = ((8 * size / 2 ^ (8 * i) % 256 : Nat) : Int) by simp]
        exact h
      case measure => simp [intOf]; omega
    · have ti : decide ((i : Int) < 8) = false := by simp; omega
      rw [show i = 8 by omega] at c3
      have h128 : 128 = if l.length + 9 ≤ 64 then 64 else 128 := by have := HL.out; split <;> omega
      have hlen : (l ++ ShaM.tail size).length = 128 := ShaM.ended_length (by rw [HL.out]; exact HZ.out) h128
      have hby : Byt wr (w.heap.size + 3) (some ⟨w.heap.size + 2, 0, none⟩) (l ++ ShaM.tail size) := c3.byt (by omega) (by omega) fun j hj => ShaM.ended_get (by rw [HL.out]; exact HZ.out) h128 (by omega)
      have C1 := hid c1
      have C2 := hid c2
      have C3 := hid c3
      have CB := hid cb
      have HLEN := hid hlen
      have BY := hid hby
      clear c1 c2 c3 cb h128 hlen hby
      go_wp2_with fail
      refine wp_region_tail (C := fun w' => Below wr.heap.size wr w') 4 (by kernel_rfl) (by kernel_rfl) (by kernel_rfl) (Below.refl _ _).drew ?_
      simp only [List.take_succ_cons, List.take_zero, List.drop_succ_cons, List.drop_zero]
      apply kln
      · rfl
      · rfl
      · exact fun w' hw' => C1.out.below hw' C1.out.lt
      simp only [Act.put, List.setIfInBounds_toArray, List.set_cons_succ, List.set_cons_zero]
      apply wpK_val
      · rfl
      · intro w' hw'
        go_simp
        first | exact rfl | exact ⟨rfl, hw'⟩
      simp only [Act.put, List.setIfInBounds_toArray, List.set_cons_succ, List.set_cons_zero]
      apply wpK_val
      · rfl
      · intro w' hw'
        go_simp
        first | exact rfl | exact ⟨rfl, hw'⟩
      simp only [Act.put, List.setIfInBounds_toArray, List.set_cons_succ, List.set_cons_zero]
      apply wpK_val
      · rfl
      · intro w' hw'
        go_simp
        exact (passes_any s HS.out _ (l ++ ShaM.tail size) 128 128 HLEN.out (by omega) (by unfold maxLen; omega) (HB.out.append (ShaM.tail_256 size)) _ (((BY.out.below hw' (by have := C3.out.lt; omega)).more (Nat.le_trans (by have := C3.out.lt; omega) hw'.size))) (SA.out.on (CB.out.trans (hw'.mono CB.out.size)))).mono fun e w'' ⟨he, hb''⟩ => ⟨he, hw'.trans (hb''.mono hw'.size)⟩
      simp only [Act.put, List.setIfInBounds_toArray, List.set_cons_succ, List.set_cons_zero]
      refine wpK_nil fun w4 hw4 => ?_
      have c2 := C2.out.below hw4 C2.out.lt
      have cb := CB.out.trans (hw4.mono CB.out.size)
      go_wp2_with ((with_reducible apply stn); rfl; rfl; exact c2)
      apply ret_row Tryd.results29
      · exact c2.setRow_same _
      · exact Tryd.underlying27
      · rfl
      · exact (info_num8.trans (by rw [size_num8]))
      · rfl
      · rfl
      exact ⟨rfl, below_setRow cb (by omega) _⟩
theorem finish_any (s : ShaM.S8) (hs : s.ok) (A : Option Addr) (l : List Nat) (n cap size : Nat) (hl : l.length = n) (hn : n < 64) (hsz : size % 64 = n) (hm : size ≤ 1000000000000000) (hb : B256 l) (w : World) (hA : Byt w w.heap.size A l) (hS : Salts w) :
    Calls Tryd.prog 29 #[.agg (num8 s.get), .slice A n cap, .int .i64 size] w fun e w' => e = .returned (.agg (num8 (ShaM.passes s (l ++ ShaM.tail size)).get)) ∧ Below w.heap.size w w' := by
  rcases Nat.lt_or_ge 64 (n + 9) with h | h
  · exact finish_long s hs A l n cap size hl hn h hsz hm hb w hA hS
  · exact finish_short s hs A l n cap size hl hn h hsz hm hb w hA hS
end Go.Proofs.YtcpoccahneppiaaDoor
