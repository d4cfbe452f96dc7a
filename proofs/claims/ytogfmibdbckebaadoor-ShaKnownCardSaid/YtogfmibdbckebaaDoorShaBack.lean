/-
  The walk of the law of P3.6.
-/
import Derived.Test.YtogfmibdbckebaaDoorShaOf
namespace Go.Proofs.YtogfmibdbckebaaDoor
open Go.ChangeShapes Go.WideShapes Go.ChangeAt Go.RowKit
attribute [local go_sem] Gives
theorem text_txt (f : Nat → Nat) (hf : ∀ k, f k < 256) (w : World) : Calls Tryd.prog 18 #[.agg (tag f)] w fun e w' => e = .returned (.string (txt f)) ∧ Below w.heap.size w w' := text_any f hf w
theorem ldtg {ops : Array Oper} {Q : Exit → Act → World → Prop} {a : Act} {w : World} {rest : List Oper} {dst : Option Tmp} {ty : TypeId} {pos : String} {after : Array Edge} {x : Operand} {g : Nat} {f : Nat → Nat} {gd : Option (Nat × Bool)}
    (hwt : Region.wanted ⟨dst, .load 34 x, ty, pos, after, gd⟩ (yielded ops a.tmps) = true) (hx : a.eval x = .pointer (some ⟨g, 0, none⟩)) (hb : Blk w g 34 (tag f))
    (h : wpList Tryd.prog ops Q rest (a.put dst (.agg (tag f))) w) : wpList Tryd.prog ops Q (⟨dst, .load 34 x, ty, pos, after, gd⟩ :: rest) a w := by
  unfold wpList
  rw [if_pos hwt]
  exact .inl (wp_load_row (P := Tryd.prog) 34 x rfl g hx 34 (tag f) (0, 0) _ hb Tryd.underlying34 rfl (info_tag.trans (by rw [size_tag])) h)
theorem ofT_lt (s : ByteArray) (i : Nat) : ofT s i < 256 := by
  have h := fun j => dval_ch s j
  have h1 := h (2 * i)
  have h2 := h (2 * i + 1)
  unfold ofT dn
  omega
/-- Does it spell a digest? -/
def isHex (s : ByteArray) : Bool := decide (s.size = 64) && (List.range 64).all fun j => decide (0 ≤ dval (ch s j))
theorem isHex_yes {s : ByteArray} (h : isHex s = true) : s.size = 64 ∧ ∀ j, j < 64 → 0 ≤ dval (ch s j) := by
  simp only [isHex, Bool.and_eq_true, decide_eq_true_eq, List.all_eq_true, List.mem_range] at h
  exact h
theorem isHex_no {s : ByteArray} (h : isHex s = false) (hs : s.size = 64) : ¬ ∀ j, j < 64 → 0 ≤ dval (ch s j) := by
  intro hall
  have : isHex s = true := by
    simp only [isHex, Bool.and_eq_true, decide_eq_true_eq, List.all_eq_true, List.mem_range]
    exact ⟨hs, hall⟩
  rw [h] at this
  cases this
theorem txt_zero {s : ByteArray} (h : isHex s = false) : txt (fun _ => 0) ≠ s := by
  rintro rfl
  exact isHex_no h (txt_size _) (of_txt (fun _ => 0) (fun _ => by omega)).1
theorem toList_ne {a b : ByteArray} (h : a ≠ b) : (a.toList == b.toList) = false := by
  rw [beq_eq_false_iff_ne]
  intro e
  rw [ByteArray.toList_eq, ByteArray.toList_eq] at e
  exact h (by cases a; cases b; simp at e; rw [e])
theorem of_hex (s : ByteArray) (h : isHex s = true) (w : World) :
    Calls Tryd.prog 16 #[.string s] w fun e w' => e = .returned (.tuple #[.agg (tag (ofT s)), .bool true]) ∧ Below w.heap.size w w' := by
  obtain ⟨h1, h2⟩ := isHex_yes h
  refine (of_any s h1 w).mono fun e w' hp => ?_
  obtain ⟨hb, ⟨he, _⟩ | ⟨_, j, hj, hd⟩⟩ := hp
  · exact ⟨he, hb⟩
  · have := h2 j hj
    omega
theorem of_nohex (s : ByteArray) (h : isHex s = false) (w : World) :
    Calls Tryd.prog 16 #[.string s] w fun e w' => e = .returned (.tuple #[.agg (tag fun _ => 0), .bool false]) ∧ Below w.heap.size w w' := by
  by_cases hs : s.size = 64
  · refine (of_any s hs w).mono fun e w' hp => ?_
    obtain ⟨hb, ⟨_, ha⟩ | ⟨he, _⟩⟩ := hp
    · exact absurd ha (isHex_no h hs)
    · exact ⟨he, hb⟩
  · exact of_len s hs w
theorem hex_txt (f : Nat → Nat) (hf : ∀ k, f k < 256) : isHex (txt f) = true := by
  simp only [isHex, Bool.and_eq_true, decide_eq_true_eq, List.all_eq_true, List.mem_range]
  exact ⟨txt_size f, (of_txt f hf).1⟩
set_option maxHeartbeats 400000 in
set_option maxRecDepth 100000 in
theorem back_long (f : Nat → Nat) (s : ByteArray) (hs : 3000 < s.size) (hm : s.size ≤ maxLen) (w : World) (hS : Salts w) :
    Calls Tryd.prog 8 #[.agg (tag f), .string s] w fun e w' => e = .returned (.bool true) ∧ Below w.heap.size w w' := by
  unfold maxLen at hm
  have SA := hid hS
  clear hS
  go_enter Tryd.func8, Tryd.ntmps8
  go_wp2_with fail
  generalize hw3 : World.alloc w _ = w3
  have hb : Below w.heap.size w w3 := by rw [← hw3]; exact (Below.refl _ _).alloc (Nat.le_refl _) _
  clear hw3
  refine (awake_any w3 (SA.out.on hb)).mono ?_
  rintro e w4 ⟨rfl, h4⟩
  have hb4 := hb.trans (h4.mono hb.size)
  clear h4 hb
  go_wp2_with fail
  go_ret
  exact ⟨rfl, hb4⟩
set_option maxHeartbeats 400000 in
set_option maxRecDepth 100000 in
theorem back_short (f : Nat → Nat) (hf : ∀ k, f k < 256) (s : ByteArray) (hs : s.size ≤ 3000) (w : World) (hS : Salts w) :
    Calls Tryd.prog 8 #[.agg (tag f), .string s] w fun e w' => e = .returned (.bool true) ∧ Below w.heap.size w w' := by
  have SA := hid hS
  have HF := hid hf
  clear hS hf
  go_enter Tryd.func8, Tryd.ntmps8
  go_wp2_with fail
  generalize hw3 : World.alloc w _ = w3
  have b0 : Blk w3 w.heap.size 34 (tag f) := by rw [← hw3]; exact Blk.top rfl rfl
  have hb : Below w.heap.size w w3 := by rw [← hw3]; exact (Below.refl _ _).alloc (Nat.le_refl _) _
  clear hw3
  have B0 := hid b0
  have HB := hid hb
  clear b0 hb
  have key : ∃ (x : Nat → Nat) (ok : Bool), Hid (∀ k, x k < 256) ∧ Hid ((ok = true ∧ s.size = 64 ∧ txt x = s) ∨ (ok = false ∧ (s.size = 64 → txt x ≠ s))) ∧
      ∀ w, Calls Tryd.prog 16 #[.string s] w fun e w' => e = .returned (.tuple #[.agg (tag x), .bool ok]) ∧ Below w.heap.size w w' := by
    cases h : isHex s with
    | true => exact ⟨ofT s, true, hid (ofT_lt s), hid (.inl ⟨rfl, (isHex_yes h).1, txt_of s (isHex_yes h).1 (isHex_yes h).2⟩), of_hex s h⟩
    | false => exact ⟨fun _ => 0, false, hid fun _ => by show 0 < 256; omega, hid (.inr ⟨rfl, fun _ => txt_zero h⟩), of_nohex s h⟩
  obtain ⟨x, ok, HX, HOK, hof⟩ := key
  have HOF := hid hof
  clear hof
  refine (HOF.out w3).mono ?_
  rintro e w4 ⟨rfl, h4⟩
  have b0 := B0.out.below h4 B0.out.lt
  have hb := HB.out.trans (h4.mono HB.out.size)
  have hlt : w.heap.size < w4.heap.size := b0.lt
  clear h4 B0 HB w3
  go_upto_region 4 with ((with_reducible apply stt); rfl; rfl; exact Blk.top zlit_tag rfl)
  generalize hw5 : World.setRow _ _ _ = w5
  have c5 : Blk w5 w4.heap.size 34 (tag x) := by rw [← hw5]; exact (Blk.top zlit_tag rfl).setRow_same _
  have c0 : Blk w5 w.heap.size 34 (tag f) := by rw [← hw5]; exact (b0.alloc _).setRow_other (by omega) _
  have cb : Below w.heap.size w w5 := by rw [← hw5]; exact below_setRow (hb.alloc hb.size _) hb.size _
  clear hw5 b0 hb
  generalize w4.heap.size = g5 at *
  clear w4
  go_wp2_with ((with_reducible apply ldt); rfl; exact c0)
  have C5 := hid c5
  have C0 := hid c0
  have CB := hid cb
  clear c5 c0 cb
  refine (text_txt f HF.out w5).mono ?_
  rintro e w6 ⟨rfl, h6⟩
  have C5' := hid (C5.out.below h6 C5.out.lt)
  have C0' := hid (C0.out.below h6 C0.out.lt)
  have CB' := hid (CB.out.trans (h6.mono CB.out.size))
  clear h6 C5 C0 CB w5
  go_wp2_with fail
  refine (of_hex (txt f) (hex_txt f HF.out) w6).mono ?_
  rintro e w7 ⟨rfl, h7⟩
  rw [(of_txt f HF.out).2]
  have c5 := C5'.out.below h7 C5'.out.lt
  have c0 := C0'.out.below h7 C0'.out.lt
  have cb := CB'.out.trans (h7.mono CB'.out.size)
  have hlt5 : g5 < w7.heap.size := c5.lt
  clear h7 C5' C0' CB' w6
  go_upto_region 5 with ((with_reducible apply stt); rfl; rfl; exact Blk.top zlit_tag rfl)
  generalize hw8 : World.setRow _ _ _ = w8
  have d7 : Blk w8 w7.heap.size 34 (tag f) := by rw [← hw8]; exact (Blk.top zlit_tag rfl).setRow_same _
  have d5 : Blk w8 g5 34 (tag x) := by rw [← hw8]; exact (c5.alloc _).setRow_other (by omega) _
  have d0 : Blk w8 w.heap.size 34 (tag f) := by rw [← hw8]; exact (c0.alloc _).setRow_other (by omega) _
  have db : Below w.heap.size w w8 := by rw [← hw8]; exact below_setRow (cb.alloc cb.size _) cb.size _
  clear hw8 c5 c0 cb
  generalize w7.heap.size = g7 at *
  clear w7
  have hE := fun w => eq_tag_self f w
  have hG := eqg_tag
  rcases HOK.out with ⟨h1, h2, h3⟩ | ⟨h1, h2⟩
  · have T64 : ((s.size : Int) == 64) = true := by rw [beq_iff_eq]; omega
    have H3 := hid h3
    subst h1
    clear h2 h3 HOK
    go_wp2_with (first | ((with_reducible apply ldtg); rfl; rfl; first | exact d7 | exact d5 | exact d0))
    refine (text_txt x HX.out w8).mono ?_
    rintro e w9 ⟨rfl, h9⟩
    rw [H3.out]
    have db9 := hid (db.trans (h9.mono db.size))
    clear h9 db d0 d5 d7 hE hG
    go_wp2_with fail
    refine (awake_any w9 (SA.out.on db9.out)).mono ?_
    rintro e w10 ⟨rfl, h10⟩
    have hb := db9.out.trans (h10.mono db9.out.size)
    clear h10
    go_wp2_with fail
    go_ret
    exact ⟨rfl, hb⟩
  · subst h1
    by_cases h64 : s.size = 64
    · have T64 : ((s.size : Int) == 64) = true := by rw [beq_iff_eq]; omega
      have H3 := toList_ne (h2 h64)
      clear h2 h64 HOK
      go_wp2_with (first | ((with_reducible apply ldtg); rfl; rfl; first | exact d7 | exact d5 | exact d0))
      refine (text_txt x HX.out w8).mono ?_
      rintro e w9 ⟨rfl, h9⟩
      have db9 := hid (db.trans (h9.mono db.size))
      clear h9 db d0 d5 d7 hE hG
      go_wp2_with fail
      refine (awake_any w9 (SA.out.on db9.out)).mono ?_
      rintro e w10 ⟨rfl, h10⟩
      have hb := db9.out.trans (h10.mono db9.out.size)
      clear h10
      go_wp2_with fail
      go_ret
      exact ⟨rfl, hb⟩
    · have T64 : ((s.size : Int) == 64) = false := by rw [beq_eq_false_iff_ne]; omega
      clear h2 h64 HOK
      go_wp2_with (first | ((with_reducible apply ldtg); rfl; rfl; first | exact d7 | exact d5 | exact d0))
      refine (awake_any w8 (SA.out.on db)).mono ?_
      rintro e w10 ⟨rfl, h10⟩
      have hb := db.trans (h10.mono db.size)
      clear h10 db d0 d5 d7 hE hG
      go_wp2_with fail
      go_ret
      exact ⟨rfl, hb⟩
end Go.Proofs.YtogfmibdbckebaaDoor
