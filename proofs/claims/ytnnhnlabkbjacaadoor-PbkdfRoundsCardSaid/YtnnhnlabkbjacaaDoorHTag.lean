/-
  Contracts of (hmac.keyed).tag, hmac.Parts, hmac.Of over this translation.
-/
import Derived.Test.YtnnhnlabkbjacaaDoorHAdd
namespace Go.Proofs.YtnnhnlabkbjacaaDoor
open Go.ChangeShapes Go.WideShapes Go.ChangeAt Go.RowKit
attribute [local go_sem] Gives
/-- A slice of slices of bytes. -/
def Prts (w : World) (B : Nat) (A : Option Addr) (ls : List (List Nat)) : Prop :=
  0 < ls.length → ∃ b o, A = some ⟨b, o, none⟩ ∧ b < B ∧ ∀ i, i < ls.length → ∃ A' c, w.cell? ⟨b, o + i, none⟩ = some (.slice A' (ls.getD i []).length c) ∧ (ls.getD i []).length ≤ c ∧ c ≤ maxLen ∧ Byt w B A' (ls.getD i [])
theorem Prts.below {B B' : Nat} {w w' : World} {A : Option Addr} {ls : List (List Nat)} (h : Prts w B A ls) (hb : Below B' w w') (hB : B ≤ B') : Prts w' B A ls := fun hn => by
  obtain ⟨b, o, rfl, hl, hr⟩ := h hn
  refine ⟨b, o, rfl, hl, fun i hi => ?_⟩
  obtain ⟨A', c, h1, h2, h3, h4⟩ := hr i hi
  exact ⟨A', c, (hb.cell (p := ⟨b, o + i, none⟩) (by show b < B'; omega)).trans h1, h2, h3, h4.below hb hB⟩
theorem Prts.more {B B' : Nat} {w : World} {A : Option Addr} {ls : List (List Nat)} (h : Prts w B A ls) (hB : B ≤ B') : Prts w B' A ls := fun hn => by
  obtain ⟨b, o, rfl, hl, hr⟩ := h hn
  refine ⟨b, o, rfl, by omega, fun i hi => ?_⟩
  obtain ⟨A', c, h1, h2, h3, h4⟩ := hr i hi
  exact ⟨A', c, h1, h2, h3, h4.more hB⟩
/-- All parts, one behind the other. -/
def flat (ls : List (List Nat)) : List Nat := ls.flatten
theorem flat_step {ls : List (List Nat)} {i : Nat} (h : i < ls.length) : flat (ls.take (i + 1)) = flat (ls.take i) ++ ls.getD i [] := by
  unfold flat
  rw [List.take_succ_eq_append_getElem h, List.flatten_append, List.flatten_singleton, List.getD_eq_getElem?_getD, List.getElem?_eq_getElem h]; rfl
theorem flat_256 {ls : List (List Nat)} (h : ∀ l ∈ ls, B256 l) : B256 (flat ls) := fun x hx => by
  obtain ⟨l, hl, hx⟩ := List.mem_flatten.1 hx
  exact h l hl x hx
theorem flat_take_le (ls : List (List Nat)) (i : Nat) : (flat (ls.take i)).length ≤ (flat ls).length := by
  conv => rhs; rw [← List.take_append_drop i ls]
  unfold flat
  rw [List.flatten_append, List.length_append]; omega
theorem part_256 {ls : List (List Nat)} (h : ∀ l ∈ ls, B256 l) (i : Nat) : B256 (ls.getD i []) := by
  rw [List.getD_eq_getElem?_getD]
  cases e : ls[i]? with
  | none => exact fun x hx => by cases hx
  | some l => exact h l (List.mem_of_getElem? e)
/-- The tag of parts under keys' prefixes. -/
def tagOf (s54 s92 : ShaM.S8) (l : List Nat) : Nat → Nat := ShaM.digest (ShaM.ended s92 64 (HmM.dl (ShaM.digest (ShaM.ended s54 64 l))))
theorem zlit_msg (f : Nat → Nat) : msg f 64 (fun _ => 0) 0 = msg f 64 (fun _ => 0) 0 := rfl
theorem alloc_tag (w : World) : (Instr.alloc 43 true (.tuple #[])).run Tryd.prog w = .ok (.pointer (some ⟨w.heap.size, 0, none⟩)) (w.alloc (.cells (tag fun _ => 0) 43)) := by
  have hz := (zero_of_info (P := Tryd.prog) (t := 43) (v := .agg (tag fun _ => 0)) (n := 32) (by kernel_rfl)).1
  simp [Instr.alloc, Sem.run_bind, hz w, newVar, newRow, Value.cells]
theorem zero_msg (w : World) : (zeroValue 62).run Tryd.prog w = .ok (.agg (row 75 fun j => if j < 10 then preC (fun _ => 0) 0 false j else if j < 74 then .int .u8 0 else .int .i64 0)) w :=
  (zero_of_info (P := Tryd.prog) (t := 62) (v := .agg (row 75 fun j => if j < 10 then preC (fun _ => 0) 0 false j else if j < 74 then .int .u8 0 else .int .i64 0)) (n := 75) (by kernel_rfl)).1 w
section
variable {ops : Array Oper} {a : Act} {rest : List Oper} {dst : Option Tmp} {ty : TypeId} {pos : String} {after : Array Edge} {x : Operand} {g o m : Nat} {f : Nat → Nat} {b : Bool} {C : World → Prop} {Qk : Act → Prop} {gd : Option (Nat × Bool)}
theorem blpm (hwt : Region.wanted ⟨dst, .load 54 x, ty, pos, after, gd⟩ (yielded ops a.tmps) = true) (hx : a.eval x = .pointer (some ⟨g, o, none⟩)) (hb : ∀ w, C w → w.rangeAt g o (pre f m b).toList) (h : wpB Tryd.prog ops C Qk rest (a.put dst (.agg (pre f m b)))) :
    wpB Tryd.prog ops C Qk (⟨dst, .load 54 x, ty, pos, after, gd⟩ :: rest) a :=
  wpB_val hwt (fun w hw => gives_value (w' := w) (by
    have := run_loadAt_mid (P := Tryd.prog) w g o 54 (pre f m b).toList _ (hb w hw) Tryd.underlying54 rfl (info_pre.trans (by rw [Array.length_toList, size_pre]))
    rw [Array.toArray_toList] at this
    simp only [execOp, hx, Sem.run_bind, this, Result.andThen_ok, Sem.run_pure]) ⟨hw, Below.refl _ _⟩) h
theorem klpm (hwt : Region.wanted ⟨dst, .load 54 x, ty, pos, after, gd⟩ (yielded ops a.tmps) = true) (hx : a.eval x = .pointer (some ⟨g, o, none⟩)) (hb : ∀ w, C w → w.rangeAt g o (pre f m b).toList) (h : wpK Tryd.prog ops C Qk rest (a.put dst (.agg (pre f m b)))) :
    wpK Tryd.prog ops C Qk (⟨dst, .load 54 x, ty, pos, after, gd⟩ :: rest) a :=
  wpK_val hwt (fun w hw => gives_value (w' := w) (by
    have := run_loadAt_mid (P := Tryd.prog) w g o 54 (pre f m b).toList _ (hb w hw) Tryd.underlying54 rfl (info_pre.trans (by rw [Array.length_toList, size_pre]))
    rw [Array.toArray_toList] at this
    simp only [execOp, hx, Sem.run_bind, this, Result.andThen_ok, Sem.run_pure]) hw) h
end
set_option maxHeartbeats 400000 in
set_option maxRecDepth 100000 in
theorem tag_any (s54 s92 : ShaM.S8) (h54 : s54.ok) (h92 : s92.ok) (A : Option Addr) (ls : List (List Nat)) (n cap : Nat) (hl : ls.length = n) (hn : n ≤ 1000000) (hls : ∀ l ∈ ls, B256 l) (hz : 64 + (flat ls).length ≤ 1000000000000000) (w : World) (hA : Prts w w.heap.size A ls) (hS : Salts w) :
    Calls Tryd.prog 25 #[.agg (kyd s54.get s92.get), .slice A n cap] w fun e w' => e = .returned (.agg (tag (tagOf s54 s92 (flat ls)))) ∧ Below w.heap.size w w' := by
  have HA := hid hA
  have HL := hid hl
  have SA := hid hS
  have H54 := hid h54
  have H92 := hid h92
  have HLS := hid hls
  clear hA hl hS h54 h92 hls
  have hZ := zero_msg
  go_enter Tryd.func25, Tryd.ntmps25
  go_upto_region 1 with fail
  generalize hw3 : World.alloc (World.alloc w _) _ = w3
  have b1 : Blk w3 w.heap.size 56 (kyd s54.get s92.get) := by rw [← hw3]; exact (Blk.top rfl rfl).alloc _
  have b2 : Blk w3 (w.heap.size + 1) 43 (tag fun _ => 0) := by rw [← hw3]; exact Blk.top zlit_tag (by simp)
  have hb : Below w.heap.size w w3 := by rw [← hw3]; exact ((Below.refl _ _).alloc (Nat.le_refl _) _).alloc (by simp) _
  have hz3 : w3.heap.size = w.heap.size + 2 := by rw [← hw3]; simp
  clear hw3
  have r1 := b1.kydA
  have HZ3 := hid hz3
  clear hz3
  go_upto_region 2 with (first | ((with_reducible apply ldpm); rfl; exact r1) | ((with_reducible apply bldm); rfl) | ((with_reducible apply stm); rfl; rfl; exact Blk.top rfl rfl; exact size_row))
  clear hZ r1
  generalize hw4 : World.setRow _ _ _ = w4
  obtain ⟨g, hg⟩ : ∃ g, g = w3.heap.size := ⟨_, rfl⟩
  rw [← hg]
  have c3 : Blk w4 g 62 (msg s54.get 64 (fun _ => 0) 0) := by rw [← hw4, hg]; exact (Blk.top rfl rfl).setRow_same _
  have c1 : Blk w4 w.heap.size 56 (kyd s54.get s92.get) := by rw [← hw4]; exact (b1.alloc _).setRow_other (by have := HZ3.out; omega) _
  have c2 : Blk w4 (w.heap.size + 1) 43 (tag fun _ => 0) := by rw [← hw4]; exact (b2.alloc _).setRow_other (by have := HZ3.out; omega) _
  have cb : Below w.heap.size w w4 := by rw [← hw4]; exact below_setRow (hb.alloc (by have := HZ3.out; omega) _) (by have := HZ3.out; omega) _
  have hgz : g = w.heap.size + 2 := by rw [hg, HZ3.out]
  have fd : Fed s54 (flat (ls.take 0)) w4 g := ⟨[], [], fun _ => 0, rfl, rfl, by simp, fun j hj => absurd hj (by simp), by rw [ShaM.passes_short (by simp)]; exact c3⟩
  have hg1 : w.heap.size + 1 < g := by omega
  have hg0 : 0 < g := by omega
  have hcell : ∀ i, i < n → ∃ A' c, w.cell? ⟨0, 0, none⟩ = w.cell? ⟨0, 0, none⟩ := fun i hi => ⟨A, cap, rfl⟩
  clear hw4 b1 b2 hb hg hgz c3 hcell HZ3 w3
  have C1 := hid c1
  have C2 := hid c2
  have CB := hid cb
  have FD := hid fd
  clear c1 c2 cb fd
  go_wp2_with fail
  go_loopw [14] (fun v wr => ∃ i : Nat, i ≤ n ∧ v = .int .i64 i ∧ Hid (Fed s54 (flat (ls.take i)) wr g) ∧ Hid (Below g w4 wr)) (fun v _ => n - (intOf v).toNat)
  case atStart => exact ⟨0, Nat.zero_le _, rfl, FD, hid (Below.refl _ _)⟩
  case round =>
    obtain ⟨i, hi, rfl, fd, hb4⟩ := hrel
    clear FD
    by_cases hlt : i < n
    · have ti : (i : Int) < (n : Int) := by omega
      have hlsi : i < ls.length := by rw [HL.out]; exact hlt
      have hst := flat_step hlsi
      have h256 := part_256 HLS.out i
      have hle := flat_take_le ls (i + 1)
      rw [hst, List.length_append] at hle
      have bel := CB.out.trans (hb4.out.mono (by omega))
      obtain ⟨b, o, rfl, hB, hr⟩ := (HA.out.below bel (Nat.le_refl _)) (by omega)
      obtain ⟨A', c', q1, q2, q3, q4⟩ := hr i hlsi
      obtain ⟨p, hp⟩ : ∃ p, p = ls.getD i [] := ⟨_, rfl⟩
      rw [← hp] at q1 q2 q4 hst h256 hle
      obtain ⟨pn, hpn⟩ : ∃ pn, pn = p.length := ⟨_, rfl⟩
      rw [← hpn] at q1 q2 hle
      have HPN := hid hpn
      clear hp hpn
      have h0256 : B256 (flat (ls.take i)) := flat_256 fun l hl => HLS.out l (List.mem_of_mem_take hl)
      have Q4 := hid q4
      have HST := hid hst
      have H256 := hid h256
      have H0256 := hid h0256
      have BEL := hid bel
      have Q2 := hid q2
      have Q3 := hid q3
      clear hst h256 h0256 bel hr q4 q2 q3
      go_wp2_with fail
      refine (add_any s54 H54.out (flat (ls.take i)) H0256.out g A' p pn c' HPN.out.symm Q2.out Q3.out (by omega) H256.out wr hg0 fd.out (Q4.out.more (by omega)) (SA.out.on BEL.out)).mono ?_
      rintro e w5 ⟨rfl, f5, b5⟩
      have F5 := hid f5
      have B5 := hid (hb4.out.trans b5)
      clear f5 b5 q1 Q4
      go_wp2_with fail
      go_roundw
      case rel => exact ⟨i + 1, by omega, by go_num, hid (by rw [HST.out]; exact F5.out), B5⟩
      case measure => simp [intOf]; omega
    · obtain rfl : i = n := by omega
      have hfull : ls.take i = ls := by rw [← HL.out, List.take_length]
      rw [hfull] at fd
      obtain ⟨A0, L0, f, h1, h2, h3, h4, g5⟩ := fd.out
      clear fd hfull
      have c1 := C1.out.below hb4.out (by omega)
      have c2 := C2.out.below hb4.out hg1
      have cb := CB.out.trans (hb4.out.mono (by omega))
      clear C1 C2 CB hb4
      have C1 := hid c1
      have C2 := hid c2
      have CB := hid cb
      have G5 := hid g5
      obtain ⟨q, hq⟩ : ∃ q, q = L0.length := ⟨_, rfl⟩
      have hq64 : (q : Int) ≤ 64 := by omega
      have hqn : q ≤ 64 := by omega
      rw [← hq] at G5
      have HQ := hid hq
      have H1 := hid h1
      have H2 := hid h2
      have H4 := hid h4
      have H3 := hid h3
      have hzl : (flat ls).length = A0.length + L0.length := by rw [h1, List.length_append]
      have HZL := hid hzl
      have h0256 : B256 L0 := fun x hx => flat_256 HLS.out x (by rw [h1]; exact List.mem_append.2 (.inr hx))
      have H0256 := hid h0256
      clear c1 c2 cb g5 hq h1 h2 h4 hzl h0256 h3
      go_upto_region 7 with fail
      have hgl := G5.out.lt
      refine wp_region_new1 (C := fun w' => Below wr.heap.size wr w') 7 43 (tag fun _ => 0) 8 rfl (by kernel_rfl) (by kernel_rfl) (by kernel_rfl) alloc_tag (Below.refl _ _).drew (fun w' hw' => hw'.alloc hw'.size _) (fun w' hw' => hw'.size) ?_
      simp only [List.take_succ_cons, List.take_zero, List.drop_succ_cons, List.drop_zero]
      apply wpB_val
      · rfl
      · intro w' hw'
        have hbl := Below.refl w'.heap.size w'
        go_simp
        first | exact rfl | exact ⟨rfl, hbl⟩ | exact ⟨rfl, hw', hbl⟩
      simp only [Act.put, List.setIfInBounds_toArray, List.set_cons_succ, List.set_cons_zero]
      apply blpm
      · rfl
      · rfl
      · exact fun w' hw' => (G5.out.below hw' G5.out.lt).msgA
      simp only [Act.put, List.setIfInBounds_toArray, List.set_cons_succ, List.set_cons_zero]
      apply wpB_val
      · rfl
      · intro w' hw'
        have hbl := Below.refl w'.heap.size w'
        go_simp
        first | exact rfl | exact ⟨rfl, hbl⟩ | exact ⟨rfl, hw', hbl⟩
      simp only [Act.put, List.setIfInBounds_toArray, List.set_cons_succ, List.set_cons_zero]
      apply wpB_val
      · rfl
      · intro w' hw'
        have hbl := Below.refl w'.heap.size w'
        go_simp
        first | exact rfl | exact ⟨rfl, hbl⟩ | exact ⟨rfl, hw', hbl⟩
      simp only [Act.put, List.setIfInBounds_toArray, List.set_cons_succ, List.set_cons_zero]
      apply wpB_val
      · rfl
      · intro w' hw'
        have hbl := Below.refl w'.heap.size w'
        have hcell : _ := (G5.out.below hw' G5.out.lt).msgN
        go_simp
        first | exact rfl | exact ⟨rfl, hbl⟩ | exact ⟨rfl, hw', hbl⟩
      simp only [Act.put, List.setIfInBounds_toArray, List.set_cons_succ, List.set_cons_zero]
      apply wpB_val
      · rfl
      · intro w' hw'
        have hbl := Below.refl w'.heap.size w'
        have ht : _ := hq64
        go_simp
        first | exact rfl | exact ⟨rfl, hbl⟩ | exact ⟨rfl, hw', hbl⟩
      simp only [Act.put, List.setIfInBounds_toArray, List.set_cons_succ, List.set_cons_zero]
      apply wpB_val
      · rfl
      · intro w' hw'
        go_simp
        exact (psum_ok (ShaM.passes s54 A0) (ShaM.passes_ok _ (Nat.le_refl _) H54.out) _ L0 q 64 (64 + A0.length) HQ.out.symm (by have := H2.out; omega) hqn (by unfold maxLen; omega) (by have := HZL.out; have := HQ.out; omega) H0256.out _ (((G5.out.below hw' G5.out.lt).msgByt (Nat.lt_of_lt_of_le hgl hw'.size) (by have := HQ.out; omega) fun j hj => H4.out j hj)) (SA.out.on (CB.out.trans (hw'.mono CB.out.size)))).mono fun e w'' ⟨he, hb''⟩ => ⟨he, hw'.trans (hb''.mono hw'.size), hb''⟩
      simp only [Act.put, List.setIfInBounds_toArray, List.set_cons_succ, List.set_cons_zero]
      refine wpB_nil fun g8 w5 hw5 q8 hg8 => ?_
      have c1 := C1.out.below hw5 C1.out.lt
      have c2 := C2.out.below hw5 C2.out.lt
      have bel := CB.out.trans (hw5.mono CB.out.size)
      have hgl0 : w.heap.size + 1 < wr.heap.size := C2.out.lt
      have et : ShaM.digest (ShaM.ended (ShaM.passes s54 A0) (64 + A0.length) L0) = ShaM.digest (ShaM.ended s54 64 (flat ls)) := by rw [H1.out, ShaM.ended_append (n := A0.length / 64) (by have := H2.out; omega)]
      rw [et]
      clear hw5 C1 C2 CB G5 et
      unfold ptr
      have C1 := hid c1
      have C2 := hid c2
      have CB := hid bel
      clear c1 c2 bel
      go_upto_region 8 with ((with_reducible apply stt); rfl; rfl; exact q8)
      generalize hw6 : World.setRow _ _ _ = w6
      have d8 : Blk w6 g8 43 (tag (ShaM.digest (ShaM.ended s54 64 (flat ls)))) := by rw [← hw6]; exact q8.setRow_same _
      have d1 : Blk w6 w.heap.size 56 (kyd s54.get s92.get) := by rw [← hw6]; exact C1.out.setRow_other (by omega) _
      have d2 : Blk w6 (w.heap.size + 1) 43 (tag fun _ => 0) := by rw [← hw6]; exact C2.out.setRow_other (by omega) _
      have db : Below w.heap.size w w6 := by rw [← hw6]; exact below_setRow CB.out (by omega) _
      clear hw6 q8 C1 C2 CB w5
      have C1 := hid d1
      have C2 := hid d2
      have C8 := hid d8
      have CB := hid db
      clear d1 d2 d8 db
      have hd256 : B256 (HmM.dl (ShaM.digest (ShaM.ended s54 64 (flat ls)))) := HmM.dl_256 fun k => ShaM.digest_lt _ k
      have HD := hid hd256
      clear hd256
      go_wp2_with fail
      refine wp_region_tail (C := fun w' => Below w6.heap.size w6 w') 4 (by kernel_rfl) (by kernel_rfl) (by kernel_rfl) (Below.refl _ _).drew ?_
      simp only [List.take_succ_cons, List.take_zero, List.drop_succ_cons, List.drop_zero]
      apply wpK_val
      · rfl
      · intro w' hw'
        go_simp
        first | exact rfl | exact ⟨rfl, hw'⟩
      simp only [Act.put, List.setIfInBounds_toArray, List.set_cons_succ, List.set_cons_zero]
      apply klpm
      · rfl
      · rfl
      · exact fun w' hw' => (C1.out.below hw' C1.out.lt).kydB
      simp only [Act.put, List.setIfInBounds_toArray, List.set_cons_succ, List.set_cons_zero]
      apply wpK_val
      · rfl
      · intro w' hw'
        go_simp
        first | exact rfl | exact ⟨rfl, hw'⟩
      simp only [Act.put, List.setIfInBounds_toArray, List.set_cons_succ, List.set_cons_zero]
      apply wpK_val
      · rfl
      · intro w' hw'
        go_simp
        exact (psum_ok s92 H92.out _ (HmM.dl (ShaM.digest (ShaM.ended s54 64 (flat ls)))) 32 32 64 (HmM.dl_length _) rfl (Nat.le_refl _) (by unfold maxLen; omega) (by omega) HD.out _ ((Blk.byt (C8.out.below hw' C8.out.lt) (Nat.lt_of_lt_of_le C8.out.lt hw'.size) (by rw [HmM.dl_length]; omega) fun j hj => by rw [HmM.dl_length] at hj; exact HmM.dl_get _ hj)) (SA.out.on (CB.out.trans (hw'.mono CB.out.size)))).mono fun e w'' ⟨he, hb''⟩ => ⟨he, hw'.trans (hb''.mono hw'.size)⟩
      simp only [Act.put, List.setIfInBounds_toArray, List.set_cons_succ, List.set_cons_zero]
      refine wpK_nil fun w7 hw7 => ?_
      have c2 := C2.out.below hw7 C2.out.lt
      have cb := CB.out.trans (hw7.mono CB.out.size)
      clear hw7 C1 C2 C8 CB
      go_wp2_with ((with_reducible apply stt); rfl; rfl; exact c2)
      apply ret_row Tryd.results25
      · exact c2.setRow_same _
      · exact Tryd.underlying43
      · rfl
      · exact (info_tag.trans (by rw [size_tag]))
      · rfl
      · rfl
      exact ⟨rfl, below_setRow cb (by omega) _⟩
/-- P4.1. -/
theorem tagOf_tag {key : List Nat} (l : List Nat) : tagOf (HmM.from' 54 (HmM.blk key)) (HmM.from' 92 (HmM.blk key)) l = HmM.tag key l := by
  unfold tagOf HmM.tag
  rw [HmM.sum_from (HmM.blk_length key), HmM.sum_from (HmM.blk_length key)]
set_option maxHeartbeats 400000 in
set_option maxRecDepth 100000 in
theorem parts_any (K : Option Addr) (key : List Nat) (kn kcap : Nat) (hkl : key.length = kn) (hkc : kn ≤ kcap) (hkm : kcap ≤ maxLen) (hkz : kn ≤ 1000000000000000) (hk256 : B256 key)
    (A : Option Addr) (ls : List (List Nat)) (n cap : Nat) (hl : ls.length = n) (hn : n ≤ 1000000) (hls : ∀ l ∈ ls, B256 l) (hz : 64 + (flat ls).length ≤ 1000000000000000) (w : World) (hK : Byt w w.heap.size K key) (hA : Prts w w.heap.size A ls) (hS : Salts w) :
    Calls Tryd.prog 20 #[.slice K kn kcap, .slice A n cap] w fun e w' => e = .returned (.agg (tag (HmM.tag key (flat ls)))) ∧ Below w.heap.size w w' := by
  have HA := hid hA
  have HK := hid hK
  have HL := hid hl
  have HKL := hid hkl
  have SA := hid hS
  have HLS := hid hls
  have HK2 := hid hk256
  clear hA hl hS hls hK hkl hk256
  go_enter Tryd.func20, Tryd.ntmps20
  go_upto_region 1 with fail
  generalize hw3 : World.alloc w _ = w3
  have b2 : Blk w3 w.heap.size 43 (tag fun _ => 0) := by rw [← hw3]; exact Blk.top zlit_tag rfl
  have hb : Below w.heap.size w w3 := by rw [← hw3]; exact (Below.refl _ _).alloc (Nat.le_refl _) _
  clear hw3
  have B2 := hid b2
  have BEL := hid hb
  clear b2 hb
  go_wp2_with fail
  refine (under_any K key kn kcap HKL.out hkc hkm hkz HK2.out w3 ((HK.out.below BEL.out (Nat.le_refl _)).more BEL.out.size) (SA.out.on BEL.out)).mono ?_
  rintro e w4 ⟨rfl, h4⟩
  have B4 := hid (B2.out.below h4 B2.out.lt)
  have BEL4 := hid (BEL.out.trans (h4.mono BEL.out.size))
  clear h4 B2 BEL w3
  go_wp2_with fail
  refine (tag_any _ _ (HmM.from_ok 54 _) (HmM.from_ok 92 _) A ls n cap HL.out hn HLS.out hz w4 ((HA.out.below BEL4.out (Nat.le_refl _)).more BEL4.out.size) (SA.out.on BEL4.out)).mono ?_
  rintro e w5 ⟨rfl, h5⟩
  rw [tagOf_tag]
  have b2 := B4.out.below h5 B4.out.lt
  have hb := BEL4.out.trans (h5.mono BEL4.out.size)
  clear h5
  go_wp2_with ((with_reducible apply stt); rfl; rfl; exact b2)
  apply ret_row Tryd.results20
  · exact b2.setRow_same _
  · exact Tryd.underlying43
  · rfl
  · exact (info_tag.trans (by rw [size_tag]))
  · rfl
  · rfl
  exact ⟨rfl, below_setRow hb (Nat.le_refl _) _⟩
set_option maxHeartbeats 400000 in
set_option maxRecDepth 100000 in
theorem hof_any (K : Option Addr) (key : List Nat) (kn kcap : Nat) (hkl : key.length = kn) (hkc : kn ≤ kcap) (hkm : kcap ≤ maxLen) (hkz : kn ≤ 1000000000000000) (hk256 : B256 key)
    (A : Option Addr) (l : List Nat) (n cap : Nat) (hl : l.length = n) (hc : n ≤ cap) (hm : cap ≤ maxLen) (hls : B256 l) (hz : 64 + n ≤ 1000000000000000) (w : World) (hK : Byt w w.heap.size K key) (hA : Byt w w.heap.size A l) (hS : Salts w) :
    Calls Tryd.prog 21 #[.slice K kn kcap, .slice A n cap] w fun e w' => e = .returned (.agg (tag (HmM.tag key l))) ∧ Below w.heap.size w w' := by
  have HA := hid hA
  have HK := hid hK
  have HL := hid hl
  have HKL := hid hkl
  have SA := hid hS
  have HLS := hid hls
  have HK2 := hid hk256
  clear hA hl hS hls hK hkl hk256
  go_enter Tryd.func21, Tryd.ntmps21
  go_upto_region 1 with fail
  generalize hw3 : World.alloc w _ = w3
  have b2 : Blk w3 w.heap.size 43 (tag fun _ => 0) := by rw [← hw3]; exact Blk.top zlit_tag rfl
  have hb : Below w.heap.size w w3 := by rw [← hw3]; exact (Below.refl _ _).alloc (Nat.le_refl _) _
  clear hw3
  have B2 := hid b2
  have BEL := hid hb
  clear b2 hb
  go_wp2_with fail
  generalize hw4 : World.alloc w3 _ = w4
  have b2 : Blk w4 w.heap.size 43 (tag fun _ => 0) := by rw [← hw4]; exact B2.out.alloc _
  have hb : Below w.heap.size w w4 := by rw [← hw4]; exact BEL.out.alloc BEL.out.size _
  have hp : Prts w4 w4.heap.size (some ⟨w3.heap.size, 0, none⟩) [l] := fun _ => by
    refine ⟨w3.heap.size, 0, rfl, by rw [← hw4]; simp, fun i hi => ?_⟩
    obtain rfl : i = 0 := by simp at hi; omega
    refine ⟨A, cap, ?_, by rw [show [l].getD 0 [] = l from rfl, HL.out]; exact hc, hm, (HA.out.below hb (Nat.le_refl _)).more hb.size⟩
    rw [show [l].getD 0 [] = l from rfl, HL.out, ← hw4]
    exact (Blk.top rfl rfl).cell 0
  clear hw4 B2 BEL
  have B2 := hid b2
  have BEL := hid hb
  have HP := hid hp
  clear b2 hb hp
  refine (parts_any K key kn kcap HKL.out hkc hkm hkz HK2.out _ [l] 1 1 rfl (by omega) (fun x hx => by rw [List.mem_singleton.1 hx]; exact HLS.out) (by rw [show flat [l] = l by simp [flat], HL.out]; exact hz) w4 ((HK.out.below BEL.out (Nat.le_refl _)).more BEL.out.size) HP.out (SA.out.on BEL.out)).mono ?_
  rintro e w5 ⟨rfl, h5⟩
  rw [show flat [l] = l by simp [flat]]
  have b2 := B2.out.below h5 B2.out.lt
  have hb := BEL.out.trans (h5.mono BEL.out.size)
  clear h5
  go_wp2_with ((with_reducible apply stt); rfl; rfl; exact b2)
  apply ret_row Tryd.results21
  · exact b2.setRow_same _
  · exact Tryd.underlying43
  · rfl
  · exact (info_tag.trans (by rw [size_tag]))
  · rfl
  · rfl
  exact ⟨rfl, below_setRow hb (Nat.le_refl _) _⟩
end Go.Proofs.YtnnhnlabkbjacaaDoor
