/-
  Contracts of casematelaw03.spelt and casematelaw03.awake over this translation.
-/
import Derived.Test.YtcpoccahneppiaaDoorShaAbc
import Derived.Test.YtcpoccahneppiaaDoorEq
import Derived.Lib.ConvBytes
import Derived.Lib.SlBytesConst
import Derived.Laws.AppendOwn
namespace Go.Proofs.YtcpoccahneppiaaDoor
open Go.ChangeShapes Go.WideShapes Go.ChangeAt Go.RowKit
attribute [local go_sem] Gives
/-- A string's bytes as numbers. -/
def nats (s : ByteArray) : List Nat := s.data.toList.map (·.toNat)
theorem nats_length (s : ByteArray) : (nats s).length = s.size := by simp [nats]
theorem nats_256 (s : ByteArray) : B256 (nats s) := fun x hx => by
  obtain ⟨u, _, rfl⟩ := List.mem_map.1 hx
  exact u.toNat_lt
theorem bw_below (w : World) (e : TypeId) (s : ByteArray) : Below w.heap.size w (Lib.bytesWorld w e s) := by
  refine ⟨?_, ?_, ?_, by rw [Lib.bytesWorld_size]; omega, fun k hk => Lib.bytesWorld_at_old w e s k hk⟩
  all_goals (unfold Lib.bytesWorld World.freeze; split <;> rfl)
theorem bw_byt (w : World) (e : TypeId) (s : ByteArray) : Byt (Lib.bytesWorld w e s) (Lib.bytesWorld w e s).heap.size (some ⟨w.heap.size, 0, none⟩) (nats s) := fun _ => by
  refine ⟨w.heap.size, 0, rfl, by rw [Lib.bytesWorld_size]; omega, fun i hi => ?_⟩
  rw [nats_length] at hi
  rw [Nat.zero_add, Lib.bytesWorld_cell w e s i hi]
  have h1 : i < s.data.toList.length := by simpa using hi
  simp [nats, List.getD_eq_getElem?_getD, List.getElem?_map, List.getElem?_eq_getElem h1]
set_option maxHeartbeats 400000 in
set_option maxRecDepth 100000 in
theorem spelt_any (s : ByteArray) (hs : s.size ≤ 3000) (w : World) (hS : Salts w) :
    Calls Tryd.prog 20 #[.string s] w fun e w' => e = .returned (.string ⟨(hexL (ShaM.sum (nats s)) 32).toArray⟩) ∧ Below w.heap.size w w' := by
  go_enter Tryd.func20, Tryd.ntmps20
  go_wp2_with fail
  rw [Lib.run_convert_string_bytes w 9 22 5 s Tryd.underlying9 Tryd.underlying22 Tryd.underlying5]
  simp only [Result.andThen]
  rw [Oper.upon_value]
  have hc1 := grownCap_ge w s.size 0 5
  have hc2 := grownCap_le_maxLen w s.size 0 5 (by unfold maxLen; omega)
  have hb := bw_below w 5 s
  have hy := bw_byt w 5 s
  generalize grownCap w s.size 0 5 = cap at *
  generalize Lib.bytesWorld w 5 s = w3 at *
  have HY := hid hy
  have HB := hid hb
  have SA := hid hS
  clear hy hb hS
  go_wp2_with fail
  refine (sum_any _ (nats s) s.size cap (nats_length s) hc1 hc2 (by omega) (nats_256 s) w3 HY.out (SA.out.on HB.out)).mono ?_
  rintro e w4 ⟨rfl, h4⟩
  have HB4 := hid (HB.out.trans (h4.mono HB.out.size))
  clear h4 HB HY w3
  go_wp2_with fail
  refine (text_any (ShaM.sum (nats s)) (fun k => ShaM.digest_lt _ k) w4).mono ?_
  rintro e w5 ⟨rfl, h5⟩
  have hb := HB4.out.trans (h5.mono HB4.out.size)
  clear h5 HB4 w4
  go_wp2_with fail
  go_ret
  exact ⟨rfl, hb⟩
theorem eqg_tag : Tryd.prog.eqGuardType Tryd.prog.depth 34 = false := by kernel_rfl
theorem eq_tag (f g : Nat → Nat) (w : World) : (Op.equalIn 10000 34 (.agg (tag f)) (.agg (tag g))).run Tryd.prog w = .ok (eqN 32 (fun k => f k) fun k => g k) w :=
  run_equalIn_row (P := Tryd.prog) (d := 9998) (t := 34) (e := 5) (k := .u8) (n := 32) (f := fun k => f k) (g := fun k => g k) Tryd.underlying34 Tryd.underlying5 (by kernel_rfl) w
theorem eq_tag_self (f : Nat → Nat) (w : World) : (Op.equalIn 10000 34 (.agg (tag f)) (.agg (tag f))).run Tryd.prog w = .ok true w := by
  rw [eq_tag]
  have : eqN 32 (fun k => (f k : Int)) (fun k => f k) = true := List.all_eq_true.2 fun k _ => beq_self_eq_true _
  rw [this]
section
variable {ops : Array Oper} {Q : Exit → Act → World → Prop} {a : Act} {w : World} {rest : List Oper} {dst : Option Tmp} {ty : TypeId} {pos : String} {after : Array Edge} {x : Operand} {g m : Nat} {f : Nat → Nat} {b : Bool}
theorem ldpg {gd : Option (Nat × Bool)} (hwt : Region.wanted ⟨dst, .load 29 x, ty, pos, after, gd⟩ (yielded ops a.tmps) = true) (hx : a.eval x = .pointer (some ⟨g, 0, none⟩)) (hb : Blk w g 29 (pre f m b))
    (h : wpList Tryd.prog ops Q rest (a.put dst (.agg (pre f m b))) w) : wpList Tryd.prog ops Q (⟨dst, .load 29 x, ty, pos, after, gd⟩ :: rest) a w := by
  unfold wpList
  rw [if_pos hwt]
  exact .inl (wp_load_row (P := Tryd.prog) 29 x rfl g hx 29 (pre f m b) (0, 0) _ hb Tryd.underlying29 rfl (info_pre.trans (by rw [size_pre])) h)
end
theorem ended_none (s : ShaM.S8) (l : List Nat) : ShaM.digest (ShaM.ended (ShaM.passes s []) 0 l) = ShaM.digest (ShaM.ended s 0 l) := by rw [ShaM.passes_short (by simp)]
theorem byt_lit {w : World} {B g : Nat} {t : TypeId} {cs : Array Value} {fr : Nat × Nat} (h : w.heap[g]? = some (.cells cs t fr)) (hg : g < B) {l : List Nat} (hl : ∀ j, j < l.length → cs[j]? = some (.int .u8 (l.getD j 0 : Nat))) : Byt w B (some ⟨g, 0, none⟩) l := fun _ =>
  ⟨g, 0, rfl, hg, fun i hi => by rw [Nat.zero_add, cell_of_row w g i cs t fr h]; exact hl i hi⟩
set_option maxHeartbeats 400000 in
set_option maxRecDepth 100000 in
theorem awake_any (w : World) (hS : Salts w) :
    Calls Tryd.prog 10 #[] w fun e w' => e = .returned (.bool true) ∧ Below w.heap.size w w' := by
  have SA := hid hS
  clear hS
  have kc := fun (w : World) (C : Array Value) (n c : Nat) => Lib.run_convert_bytes_const (P := Tryd.prog) w 22 5 C n c Tryd.underlying22 Tryd.underlying5
  go_enter Tryd.func10, Tryd.ntmps10
  go_wp2_with fail
  refine (ahead_ok Option.none [] 0 0 rfl rfl (Nat.le_refl _) (by unfold maxLen; omega) (by omega) (fun x hx => by cases hx) w (Byt.none rfl) SA.out).mono ?_
  rintro e w3 ⟨rfl, h3⟩
  rw [ShaM.passes_short (by simp)]
  have HB := hid h3
  clear h3
  go_upto_region 2 with ((with_reducible apply stp); rfl; rfl; exact Blk.top zlit_pre rfl)
  generalize hw4 : World.setRow _ _ _ = w4
  have b1 : Blk w4 w3.heap.size 29 (pre ShaM.seeds.get 0 true) := by rw [← hw4]; exact (Blk.top zlit_pre rfl).setRow_same _
  have bel : Below w.heap.size w w4 := by rw [← hw4]; exact below_setRow (HB.out.alloc HB.out.size _) HB.out.size _
  clear hw4 HB
  go_wp2_with ((with_reducible apply ldpg); rfl; rfl; exact b1)
  clear b1
  have hsz := bel.size
  have b256 : B256 [97, 98, 99] := by intro x hx; simp at hx; omega
  generalize hw5 : World.alloc w4 _ = w5
  have y5 : Byt w5 w5.heap.size (some ⟨w4.heap.size, 0, none⟩) [97, 98, 99] := by
    rw [← hw5]
    refine byt_lit (heap_alloc_new w4 _) (by simp) fun j hj => ?_
    match j, hj with
    | 0, _ | 1, _ | 2, _ => rfl
  have bel5 : Below w.heap.size w w5 := by rw [← hw5]; exact bel.alloc hsz _
  clear hw5 bel
  have B256' := hid b256
  have BEL5 := hid bel5
  have Y5 := hid y5
  clear b256 bel5 y5
  refine (psum_ok ShaM.seeds ShaM.seeds_ok _ [97, 98, 99] 3 3 0 rfl rfl (Nat.le_refl _) (by unfold maxLen; omega) (by omega) B256'.out w5 Y5.out (SA.out.on BEL5.out)).mono ?_
  rintro e w6 ⟨rfl, h6⟩
  have bel6 := BEL5.out.trans (h6.mono BEL5.out.size)
  rw [show ShaM.digest (ShaM.ended ShaM.seeds 0 [97, 98, 99]) = ShaM.sum [97, 98, 99] from rfl]
  clear h6 BEL5 Y5 w5
  have BEL6 := hid bel6
  clear bel6
  go_wp2_with fail
  generalize hw7 : World.alloc w6 _ = w7
  have y7 : Byt w7 w7.heap.size (some ⟨w6.heap.size, 0, none⟩) [97, 98, 99] := by
    rw [← hw7]
    refine byt_lit (heap_alloc_new w6 _) (by simp) fun j hj => ?_
    match j, hj with
    | 0, _ | 1, _ | 2, _ => rfl
  have bel7 : Below w.heap.size w w7 := by rw [← hw7]; exact BEL6.out.alloc BEL6.out.size _
  clear hw7 BEL6
  have BEL7 := hid bel7
  have Y7 := hid y7
  clear bel7 y7
  refine (sum_any _ [97, 98, 99] 3 3 rfl (Nat.le_refl _) (by unfold maxLen; omega) (by omega) B256'.out w7 Y7.out (SA.out.on BEL7.out)).mono ?_
  rintro e w8 ⟨rfl, h8⟩
  have BEL8 := hid (BEL7.out.trans (h8.mono BEL7.out.size))
  clear h8 BEL7 Y7 w7
  have hE := fun w => eq_tag_self (ShaM.sum [97, 98, 99]) w
  have hG := eqg_tag
  go_wp2_with fail
  refine (spelt_any ⟨#[97, 98, 99]⟩ (by decide) w8 (SA.out.on BEL8.out)).mono ?_
  rintro e w9 ⟨rfl, h9⟩
  rw [show nats ⟨#[97, 98, 99]⟩ = [97, 98, 99] by decide, hex_abc]
  have hb := BEL8.out.trans (h9.mono BEL8.out.size)
  clear h9 BEL8 hE hG
  go_wp2_with fail
  go_ret
  exact ⟨rfl, hb⟩
end Go.Proofs.YtcpoccahneppiaaDoor
