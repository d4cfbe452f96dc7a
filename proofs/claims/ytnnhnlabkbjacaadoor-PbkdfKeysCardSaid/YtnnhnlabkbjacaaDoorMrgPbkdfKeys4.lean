/-
  Contract of pbkdf.Key over this translation.
  Texts' bytes: looked at one by one, laid behind bytes of the call's own; one byte of the call's own turned.
  Contracts of the Go library's functions over this translation, laid by the kit's own tool.
  What the document's own words of SHA-256 reckon, against the plain numbers of ShaM: rotations by sums, bits one by one, the roots of the primes.
  Contracts of the document's bits, rotations and choices (casemateref03.bit, Cut, Rot, chosen, two) over this translation.
  Contracts of the document's roots (casemateref03.within, root) over this translation.
  Contracts of the document's primes and their roots (casemateref03.Primes, Roots) over this translation.
  Contracts of pbkdf.Pass and of the document's Pass (casemateref05) over this translation.
  The tag of a known text under a known key, reckoned out.
  The tags of the chapter's keys, reckoned out.
  Contracts of casematelaw05's own functions: one, two, is, no, awake, large.
  The walk of PbkdfPasses.
-/
import Derived.Test.YtnnhnlabkbjacaaDoorMrgPbkdfKeys3
import Derived.Lib.AppendStr
import Derived.Shelf.Bits.Mul64
import Derived.Test.YtnnhnlabkbjacaaDoorProg
import Derived.Laws.OwnMore
import Derived.Lib.SlBytesConst
set_option linter.unusedVariables false
namespace Go.Proofs.YtnnhnlabkbjacaaDoor
open Go.ChangeShapes Go.WideShapes Go.ChangeAt Go.RowKit
attribute [local go_sem] Gives
set_option maxHeartbeats 400000 in
theorem pkey_bad (K : Option Addr) (kn kcap : Nat) (A : Option Addr) (n cap : Nat) (rounds size : Int) (h : rounds < 1 ∨ 4096 < rounds ∨ size < 1 ∨ 128 < size) (w : World) :
    Calls Tryd.prog 11 #[.slice K kn kcap, .slice A n cap, .int .i64 rounds, .int .i64 size] w fun e w' => e = .returned (.tuple #[.slice none 0 0, .int .i64 2]) ∧ w = w' := by
  go_enter Tryd.func11, Tryd.ntmps11
  by_cases h1 : rounds < 1
  · have t1 : decide (rounds < 1) = true := decide_eq_true h1
    clear h
    go_wp2_with fail
    go_ret2
    exact ⟨rfl, rfl⟩
  · have t1 : decide (rounds < 1) = false := decide_eq_false h1
    by_cases h2 : 4096 < rounds
    · have t2 : decide ((4096 : Int) < rounds) = true := decide_eq_true h2
      clear h h1
      go_wp2_with fail
      go_ret2
      exact ⟨rfl, rfl⟩
    · have t2 : decide ((4096 : Int) < rounds) = false := decide_eq_false h2
      by_cases h3 : size < 1
      · have t3 : decide (size < 1) = true := decide_eq_true h3
        clear h h1 h2
        go_wp2_with fail
        go_ret2
        exact ⟨rfl, rfl⟩
      · have t3 : decide (size < 1) = false := decide_eq_false h3
        have t4 : decide ((128 : Int) < size) = true := decide_eq_true (by omega)
        clear h h1 h2 h3
        go_wp2_with fail
        go_ret2
        exact ⟨rfl, rfl⟩
theorem take_take32 (T : Nat → Nat) (m k : Nat) (h : m = min k 32) : (HmM.dl T).take k = (HmM.dl T).take m := by
  by_cases hk : k ≤ 32
  · rw [h, Nat.min_eq_left hk]
  · rw [h, Nat.min_eq_right (by omega), List.take_of_length_le (by rw [HmM.dl_length]; omega), List.take_of_length_le (by rw [HmM.dl_length]; omega)]
set_option maxHeartbeats 2000000 in
set_option maxRecDepth 100000 in
theorem pkey_any (K : Option Addr) (key : List Nat) (kn kcap : Nat) (A : Option Addr) (l : List Nat) (n cap rounds size : Nat) (hkn : kn ≤ 100000) (hn : n ≤ 100000) (hr : 1 ≤ rounds) (hr2 : rounds ≤ 4096) (hs : 1 ≤ size) (hs2 : size ≤ 128) (w : World) (hK : Arg w K key kn kcap) (hA : Arg w A l n cap) (hS : Salts w) :
    Calls Tryd.prog 11 #[.slice K kn kcap, .slice A n cap, .int .i64 rounds, .int .i64 size] w fun e w' => ∃ v, e = .returned (.tuple #[v, .int .i64 0]) ∧ Own 5 .u8 w' w.heap.size v (PbM.key key l rounds size) ∧ Below w.heap.size w w' := by
  have SA := hid hS
  have HK := hid hK
  have HA := hid hA
  have t1 : decide ((rounds : Int) < 1) = false := by simp; omega
  have t2 : decide ((4096 : Int) < (rounds : Int)) = false := by simp; omega
  have t3 : decide ((size : Int) < 1) = false := by simp; omega
  have t4 : decide ((128 : Int) < (size : Int)) = false := by simp; omega
  clear hS hK hA
  go_enter Tryd.func11, Tryd.ntmps11
  go_upto_region 5 with ((with_reducible apply mk0 (n := size)); omega; rfl; rfl; intro v3 w3 o3 b3)
  obtain ⟨A3, c3, e3, _⟩ := o3.any
  subst e3
  have O3 := hid o3
  have B3 := hid b3
  clear o3 b3 t1 t2 t3 t4
  go_loopw [10, 11] (fun u10 u11 wr => ∃ (j L x : Nat) (As : Option Addr) (cs : Nat), u10 = .slice As L cs ∧ u11 = .int .u8 x ∧ j ≤ 4 ∧ Hid (x = j + 1) ∧ x ≤ 5 ∧ Hid (L = min (32 * j) size) ∧ L ≤ size ∧ Hid (Own 5 .u8 wr w.heap.size u10 ((PbM.cat key l rounds j).take size)) ∧ Hid (Below w.heap.size w wr)) (fun u10 _ _ => size - lenOf u10)
  case atStart => exact ⟨0, 0, 1, A3, c3, rfl, rfl, by omega, hid rfl, by omega, hid (by omega), by omega, hid (by have := O3.out; simpa [PbM.cat] using this), B3⟩
  case round =>
    clear O3 B3
    obtain ⟨j, L, x, As, cs, rfl, rfl, hj, hx, hx5, hL, hLs, ho, hb⟩ := hrel
    have hzw := hb.out.size
    by_cases hlt : L < size
    · have t1 : decide (L < size) = true := decide_eq_true hlt
      have hLj : L = 32 * j := by have := hL.out; omega
      have hj3 : j ≤ 3 := by omega
      have HLJ := hid hLj
      have hx256 : x < 256 := by omega
      have KK := hid (HK.out.on hb.out)
      have AA := hid (HA.out.on hb.out)
      clear hLj
      go_wp2_with fail
      refine (blockof_any K key kn kcap A l n cap rounds x hkn hn hr (by omega) hx256 wr KK.out AA.out (SA.out.on hb.out)).mono ?_
      rintro e w5 ⟨rfl, h5⟩
      obtain ⟨T, hT⟩ : ∃ T, T = PbM.bl key l rounds x := ⟨_, rfl⟩
      rw [← hT]
      have HT := hid hT
      have hT256 : ∀ k, T k < 256 := fun k => by rw [hT]; exact PbM.bl_256 _ _ _ _ k
      have HT256 := hid hT256
      have B5 := hid (hb.out.trans (h5.mono hzw))
      have O5 := hid (ho.out.below h5)
      have hz5 := B5.out.size
      clear hT hT256 h5 KK AA ho
      go_upto_region 8 with ((with_reducible apply stt); rfl; rfl; exact Blk.top zlit_tag rfl)
      generalize hw6 : World.setRow _ _ _ = w6
      obtain ⟨g6, hg6⟩ : ∃ g, g = w5.heap.size := ⟨_, rfl⟩
      have d6 : Blk w6 g6 43 (tag T) := by rw [← hw6, hg6]; exact (Blk.top zlit_tag rfl).setRow_same _
      have b56 : Below w5.heap.size w5 w6 := by rw [← hw6]; exact below_setRow ((Below.refl _ _).alloc (Nat.le_refl _) _) (Nat.le_refl _) _
      rw [← hg6]
      have O6 := hid (O5.out.below b56)
      have B6 := hid (B5.out.trans (b56.mono hz5))
      have D6 := hid d6
      have hz6 := B6.out.size
      have hg6l := d6.lt
      clear hw6 d6 b56 hg6 O5 B5 hz5
      have hol : ((PbM.cat key l rounds j).take size).length = L := by rw [List.length_take, PbM.cat_length, HLJ.out]; have := HLJ.out; omega
      have HOL := hid hol
      have hx6 : x + 1 ≤ 5 := by have := hx.out; omega
      clear hol
      by_cases h32 : 32 < size - L
      · have t32 : (32 : Int) < (size : Int) - (L : Int) := by omega
        have hm32 : 32 ≤ 32 := by omega
        have hmin : 32 = min (size - 32 * j) 32 := by have := HLJ.out; omega
        have hnm : Nums .u8 w6 w6.heap.size (some ⟨g6, 0, none⟩) ((HmM.dl T).take 32) := ((tag_byt D6.out hg6l).take 32).nums
        have hlm : ((HmM.dl T).take 32).length = 32 := by rw [List.length_take, HmM.dl_length]; omega
        have NM := hid hnm
        have HLM := hid hlm
        have hch : (PbM.cat key l rounds (j + 1)).take size = (PbM.cat key l rounds j).take size ++ (HmM.dl T).take 32 := by
          rw [PbM.cat_step key l rounds j size (by have := HLJ.out; omega), ← hx.out, ← HT.out, take_take32 T 32 _ hmin]
        have HCH := hid hch
        clear hnm hlm hch hmin
        go_upto_region 6 with (at_builtin; (with_reducible apply wappW eltB); rfl; rfl; (intro h; cases h); exact O6.out; exact NM.out; exact HLM.out; (rw [HOL.out]; omega); exact hz6; intro v7 w7 o7 g7 p7)
        have b7 := below_grown B6.out g7 O6.out (Nat.le_refl _) (Nat.le_refl _)
        obtain ⟨A7, c7, e7, _⟩ := o7.any
        have hl7 : ((PbM.cat key l rounds j).take size ++ (HmM.dl T).take 32).length = L + 32 := by rw [List.length_append, HOL.out, HLM.out]
        rw [hl7] at e7
        subst e7
        have O7 := hid o7
        have B7 := hid b7
        clear o7 b7 g7 p7 hl7
        go_wp2_with fail
        go_roundw
        case rel =>
          repeat apply Exists.intro
          exact ⟨⟨j + 1, L + 32, x + 1, A7, c7, rfl, rfl, by omega, hid (by have := hx.out; omega), hx6, hid (by have := HLJ.out; omega), by omega, hid (by rw [HCH.out]; exact O7.out), B7⟩, rfl⟩
        case measure => simp [lenOf] <;> omega
      · have t32 : (size : Int) - (L : Int) ≤ 32 := by omega
        have hm32 : size - L ≤ 32 := by omega
        have hmin : size - L = min (size - 32 * j) 32 := by have := HLJ.out; omega
        have hnm : Nums .u8 w6 w6.heap.size (some ⟨g6, 0, none⟩) ((HmM.dl T).take (size - L)) := ((tag_byt D6.out hg6l).take (size - L)).nums
        have hlm : ((HmM.dl T).take (size - L)).length = size - L := by rw [List.length_take, HmM.dl_length]; omega
        have NM := hid hnm
        have HLM := hid hlm
        have hch : (PbM.cat key l rounds (j + 1)).take size = (PbM.cat key l rounds j).take size ++ (HmM.dl T).take (size - L) := by
          rw [PbM.cat_step key l rounds j size (by have := HLJ.out; omega), ← hx.out, ← HT.out, take_take32 T (size - L) _ hmin]
        have HCH := hid hch
        clear hnm hlm hch hmin
        go_upto_region 6 with (at_builtin; (with_reducible apply wappW eltB); rfl; rfl; (intro h; cases h); exact O6.out; exact NM.out; exact HLM.out; (rw [HOL.out]; omega); exact hz6; intro v7 w7 o7 g7 p7)
        have b7 := below_grown B6.out g7 O6.out (Nat.le_refl _) (Nat.le_refl _)
        obtain ⟨A7, c7, e7, _⟩ := o7.any
        have hl7 : ((PbM.cat key l rounds j).take size ++ (HmM.dl T).take (size - L)).length = L + (size - L) := by rw [List.length_append, HOL.out, HLM.out]
        rw [hl7] at e7
        subst e7
        have O7 := hid o7
        have B7 := hid b7
        clear o7 b7 g7 p7 hl7
        go_wp2_with fail
        go_roundw
        case rel =>
          repeat apply Exists.intro
          exact ⟨⟨j + 1, L + (size - L), x + 1, A7, c7, rfl, rfl, by omega, hid (by have := hx.out; omega), hx6, hid (by have := HLJ.out; omega), by omega, hid (by rw [HCH.out]; exact O7.out), B7⟩, rfl⟩
        case measure => simp [lenOf] <;> omega
    · have t1 : decide (L < size) = false := decide_eq_false hlt
      obtain rfl : L = size := by omega
      have hj4 : L ≤ 32 * j := by have := hL.out; omega
      have hst : (PbM.cat key l rounds j).take L = PbM.key key l rounds L := PbM.key_any key l rounds hj4 hj
      have o1 := ho.out
      rw [hst] at o1
      have O1 := hid o1
      have BF := hid hb.out
      clear o1 ho hst hb
      go_wp2_with fail
      go_ret2
      exact ⟨_, rfl, O1.out, BF.out⟩
end Go.Proofs.YtnnhnlabkbjacaaDoor
namespace Go.Proofs.YtnnhnlabkbjacaaDoor
open Go.ChangeShapes Go.WideShapes Go.ChangeAt Go.RowKit
/-- A text's bytes. -/
def nats (s : ByteArray) : List Nat := s.data.toList.map (·.toNat)
theorem nats_length (s : ByteArray) : (nats s).length = s.size := by simp [nats]
theorem nats_256 (s : ByteArray) : B256 (nats s) := fun x hx => by
  obtain ⟨b, _, rfl⟩ := List.mem_map.1 hx
  exact UInt8.toNat_lt _
theorem nats_inj {s t : ByteArray} (h : nats s = nats t) : s = t := by
  unfold nats at h
  have h2 : s.data.toList = t.data.toList := List.map_inj_right (fun a b e => UInt8.toNat_inj.1 e) |>.1 h
  cases s; cases t
  simp only [ByteArray.mk.injEq]
  exact Array.ext' h2
theorem str_nats (s : ByteArray) : str (nats s) = s := by
  cases s with
  | mk d =>
    unfold str u8s nats
    rw [List.map_map]
    have : (UInt8.ofNat ∘ fun x => x.toNat) = (id : UInt8 → UInt8) := funext fun x => by simp
    rw [this, List.map_id]
theorem nats_str {l : List Nat} (h : B256 l) : nats (str l) = l := by
  unfold nats str u8s
  rw [show (List.map UInt8.ofNat l).toArray.toList = List.map UInt8.ofNat l from rfl, List.map_map]
  conv => rhs; rw [← List.map_id l]
  exact List.map_congr_left fun x hx => by
    have := h x hx
    simp; omega
theorem run_idxs (s : ByteArray) {j : Nat} (hj : j < s.size) (w : World) : (Instr.index 9 (.string s) (.int .i64 j)).run Tryd.prog w = .ok (.int .u8 ((nats s).getD j 0 : Nat)) w := by
  have h1 : (0 : Int) ≤ (j : Int) := by omega
  have h2 : j < s.data.toList.length := by simpa using hj
  simp [Instr.index, run_underlying Tryd.underlying9, asIntOf, go_sem, nats, hj, List.getD_eq_getElem?_getD]
  rfl
theorem strCells_nums (s : ByteArray) : Lib.strCells s = nums .u8 (nats s) := by
  unfold Lib.strCells nums nats
  rw [List.map_map]
  rfl
section
variable {ops : Array Oper} {Q : Exit → Act → World → Prop} {a : Act} {w : World} {rest : List Oper} {dst : Option Tmp} {ty : TypeId} {pos : String} {after : Array Edge} {s x : Operand} {B g n cap i : Nat} {v : Value} {l : List Nat} {t : ByteArray}
theorem wappS (hs : a.eval s = v) (hx : a.eval x = .string t) (hown : Own 5 .u8 w B v l) (hsz : l.length + t.size ≤ 1000000) (hB : B ≤ w.heap.size)
    (h : ∀ v' w', Own 5 .u8 w' B v' (l ++ nats t) → w.grownBy w' v.ownBlock → wpList Tryd.prog ops Q rest (a.put dst v') w') :
    wpList Tryd.prog ops Q (⟨dst, .call { callee := .builtin .append, args := #[s, x], argTypes := #[22, 9] }, ty, pos, after, none⟩ :: rest) a w := by
  obtain ⟨i, hi, hz, h1, h2⟩ := eltB.inf
  have hb : i.bytes = 1 := by
    have : (Tryd.prog.info? 5).map (·.bytes) = some 1 := by kernel_rfl
    rw [hi] at this
    simpa using this
  obtain ⟨v', w', hr, ho, hg, _⟩ := Lib.run_append_own_string (P := Tryd.prog) w B 22 9 ty 5 i eltB.und Tryd.underlying9 hi hz h1 hb v l.length _ hown t (by unfold maxLen; omega) (by omega) hB
  refine wpList_plain rfl fun K hK => ?_
  unfold Oper.wp execOp
  simp only [resolve, invoke, builtin, Sem.run_bind, Sem.run_pure, Result.andThen_ok, List.map_toArray, List.map_cons, List.map_nil, hs, hx, hr]
  refine hK _ _ (h v' w' ?_ hg)
  unfold Own
  rw [List.length_append, nats_length, nums_append, ← strCells_nums]
  exact ho
end
/-- A literal of one byte is the call's own. -/
theorem Own.lit1 {w : World} {B x : Nat} (hB : B ≤ w.heap.size) : Own 5 .u8 (w.alloc (.cells #[.int .u8 (x : Nat)] 5)) B (.slice (some ⟨w.heap.size, 0, none⟩) 1 1) [x] :=
  ⟨rfl, .inr ⟨w.heap.size, 1, _, rfl, hB, heap_alloc_new w _, Nat.le_refl _, by unfold maxLen; omega, rfl, rfl⟩⟩
/-- Where it lies, and what is in its cells. -/
theorem Own.at {w : World} {B : Nat} {v : Value} {l : List Nat} (h : Own 5 .u8 w B v l) (hl : 0 < l.length) : ∃ g cap, v = .slice (some ⟨g, 0, none⟩) l.length cap ∧ B ≤ g ∧ g < w.heap.size ∧ l.length ≤ cap ∧ cap ≤ maxLen ∧ ∀ i, i < l.length → w.cell? ⟨g, i, none⟩ = some (.int .u8 (l.getD i 0 : Nat)) ∧ w.frozen? ⟨g, i, none⟩ = false := by
  rcases h.2 with ⟨rfl, h0⟩ | ⟨g, cap, cur, rfl, hB, hg, hnc, hcm, hcs, ht⟩
  · omega
  · have hb : Blk w g 5 cur := hg
    refine ⟨g, cap, rfl, hB, hb.lt, hnc, hcm, fun i hi => ⟨?_, hb.frozen i⟩⟩
    rw [hb.cell]
    have h1 := nums_get .u8 hi
    rw [← ht, List.getElem?_take_of_lt (by omega), Array.getElem?_toList] at h1
    exact h1
theorem Own.put {w : World} {B g n cap i x : Nat} {l : List Nat} (h : Own 5 .u8 w B (.slice (some ⟨g, 0, none⟩) n cap) l) (_hi : i < l.length) :
    Own 5 .u8 (w.setCell ⟨g, i, none⟩ (.int .u8 (x : Nat))) B (.slice (some ⟨g, 0, none⟩) n cap) (l.set i x) := by
  rcases h.2 with ⟨e, h0⟩ | ⟨g2, cap2, cur, e, hB, hg, hnc, hcm, hcs, ht⟩
  · cases e
  · have e2 := e
    simp only [Value.slice.injEq, Option.some.injEq, Addr.mk.injEq, and_true] at e2
    obtain ⟨rfl, rfl, rfl⟩ := e2
    have hb : Blk w g 5 cur := hg
    refine ⟨?_, .inr ⟨g, cap, cur.setIfInBounds i (.int .u8 (x : Nat)), by rw [List.length_set], hB, hb.setCell_same i _, by rw [List.length_set]; exact hnc, hcm, by rw [Array.size_setIfInBounds]; exact hcs, ?_⟩⟩
    · simp [nums]
    · rw [Array.toList_setIfInBounds, List.length_set, List.take_set, ht]
      unfold nums
      rw [List.map_set]
theorem Own.other {e : TypeId} {k : IntKind} {w : World} {B g g' n cap : Nat} {l : List Nat} {cs : Array Value} (h : Own e k w B (.slice (some ⟨g, 0, none⟩) n cap) l) (hne : g' ≠ g) : Own e k (w.setRow g' cs) B (.slice (some ⟨g, 0, none⟩) n cap) l := by
  rcases h.2 with ⟨e', _⟩ | ⟨g2, cap2, cur, e', hB, hg, hr⟩
  · cases e'
  · have e2 := e'
    simp only [Value.slice.injEq, Option.some.injEq, Addr.mk.injEq, and_true] at e2
    obtain ⟨rfl, _, _⟩ := e2
    exact ⟨h.1, .inr ⟨_, cap2, cur, e', hB, Blk.setRow_other (t := e) (cs := cur) hg hne _, hr⟩⟩
theorem Own.otherCell {e : TypeId} {k : IntKind} {w : World} {B g' i : Nat} {v u : Value} {l : List Nat} (h : Own e k w B v l) (hne : g' < B) : Own e k (w.setCell ⟨g', i, none⟩ u) B v l := by
  rcases h.2 with h' | ⟨g2, cap2, cur, e', hB, hg, hr⟩
  · exact ⟨h.1, .inl h'⟩
  · exact ⟨h.1, .inr ⟨g2, cap2, cur, e', hB, Blk.setCell_other (t := e) (cs := cur) hg (by show g' ≠ g2; omega) _, hr⟩⟩
theorem Own.putBelow {w w0 : World} {B g i : Nat} {u : Value} (hb : Below B w0 w) (hg : B ≤ g) : Below B w0 (w.setCell ⟨g, i, none⟩ u) := hb.setCell (p := ⟨g, i, none⟩) hg u
end Go.Proofs.YtnnhnlabkbjacaaDoor
namespace Go.Proofs
open Go.Shelf
def Tryd.lays264_ren : Go.Shelf.Ren := ⟨fun | 264 => 59 | n => n, fun | 53 => 78 | 46 => 91 | n => n, fun | n => n⟩
theorem Tryd.lays264 : Go.Proofs.Lays.n264 Tryd.prog Tryd.lays264_ren := {
  mixed := by kernel_rfl
  f264 := Tryd.func59.trans (congrArg some (by kernel_rfl))
  t46 := Tryd.underlying91
  a46 := Tryd.isAgg91
  z46 := Tryd.sizeOf91
  v46 := Tryd.zeroValue91
  t53 := Tryd.underlying78
  a53 := Tryd.isAgg78
  z53 := Tryd.sizeOf78
  v53 := Tryd.zeroValue78 }
open Go.RowKit Go.Lib in
theorem Tryd.bits_Mul64 (x y : Nat) (hx : x < 18446744073709551616) (hy : y < 18446744073709551616) (w : World) :
    Calls Tryd.prog 59 #[.int .u64 x, .int .u64 y] w fun e w' => e = .returned (.tuple #[.int .u64 ((x * y / 18446744073709551616 : Nat) : Int), .int .u64 ((x * y % 18446744073709551616 : Nat) : Int)]) ∧ w' = w := Any.bits_Mul64 Tryd.lays264 x y hx hy w
end Go.Proofs
namespace Go.Proofs.YtnnhnlabkbjacaaDoor.ShaM
theorem rr_sum {x n : Nat} (hx : x < 4294967296) (hn : n ≤ 32) : rr x n = x / 2 ^ n + x % 2 ^ n * 2 ^ (32 - n) := by
  unfold rr
  have h32 : (4294967296 : Nat) = 2 ^ n * 2 ^ (32 - n) := by rw [← Nat.pow_add, show n + (32 - n) = 32 by omega]
  have hlt : x / 2 ^ n < 2 ^ (32 - n) := by
    rw [Nat.div_lt_iff_lt_mul (Nat.two_pow_pos n), Nat.mul_comm, ← h32]; exact hx
  rw [h32, Nat.mul_mod_mul_right]
  have h := Nat.shiftLeft_add_eq_or_of_lt hlt (x % 2 ^ n)
  rw [Nat.shiftLeft_eq] at h
  rw [← h, Nat.add_comm]
theorem rot_low_lt {x n : Nat} (hn : n ≤ 32) : x % 2 ^ n * 2 ^ (32 - n) < 4294967296 := by
  have h32 : (4294967296 : Nat) = 2 ^ n * 2 ^ (32 - n) := by rw [← Nat.pow_add, show n + (32 - n) = 32 by omega]
  rw [h32]
  exact Nat.mul_lt_mul_of_pos_right (Nat.mod_lt _ (Nat.two_pow_pos n)) (Nat.two_pow_pos _)
def bitN (x i : Nat) : Nat := x / 2 ^ i % 2
theorem bitN_lt (x i : Nat) : bitN x i < 2 := Nat.mod_lt _ (by omega)
theorem bitN_test (x i : Nat) : bitN x i = (x.testBit i).toNat := by
  unfold bitN
  rw [Nat.testBit_eq_decide_div_mod_eq]
  have := Nat.mod_lt (x / 2 ^ i) (show 0 < 2 by omega)
  by_cases h : x / 2 ^ i % 2 = 1
  · rw [h]; rfl
  · have h0 : x / 2 ^ i % 2 = 0 := by omega
    rw [h0]; rfl
theorem div_bit (x i : Nat) : x / 2 ^ i = 2 * (x / 2 ^ (i + 1)) + bitN x i := by
  unfold bitN
  rw [Nat.pow_succ, ← Nat.div_div_eq_div_mul]
  omega
def chN (e f g : Nat) : Nat := (e &&& f) ^^^ (not32 e &&& g)
def twN (a b c : Nat) : Nat := (a &&& b) ^^^ (a &&& c) ^^^ (b &&& c)
theorem not32_lt (e : Nat) : not32 e < 4294967296 := by unfold not32; omega
theorem chN_lt {e f g : Nat} (hf : f < 4294967296) (hg : g < 4294967296) : chN e f g < 4294967296 :=
  Nat.xor_lt_two_pow (n := 32) (Nat.and_lt_two_pow _ hf) (Nat.and_lt_two_pow _ hg)
theorem twN_lt {a b c : Nat} (hb : b < 4294967296) (hc : c < 4294967296) : twN a b c < 4294967296 :=
  Nat.xor_lt_two_pow (n := 32) (Nat.xor_lt_two_pow (n := 32) (Nat.and_lt_two_pow _ hb) (Nat.and_lt_two_pow _ hc)) (Nat.and_lt_two_pow _ hc)
theorem chN_bit {e f g i : Nat} (he : e < 4294967296) (hi : i < 32) : bitN (chN e f g) i = if bitN e i = 1 then bitN f i else bitN g i := by
  have hn : (not32 e).testBit i = !e.testBit i := by
    unfold not32
    have := Nat.testBit_two_pow_sub_succ (x := e) (n := 32) he i
    rw [show (4294967295 : Nat) - e = 2 ^ 32 - (e + 1) by omega, this, decide_eq_true hi, Bool.true_and]
  rw [bitN_test, bitN_test, bitN_test, bitN_test]
  unfold chN
  rw [Nat.testBit_xor, Nat.testBit_and, Nat.testBit_and, hn]
  cases e.testBit i <;> cases f.testBit i <;> cases g.testBit i <;> rfl
theorem twN_bit (a b c i : Nat) : bitN (twN a b c) i = (bitN a i + bitN b i + bitN c i) / 2 := by
  rw [bitN_test, bitN_test, bitN_test, bitN_test]
  unfold twN
  rw [Nat.testBit_xor, Nat.testBit_xor, Nat.testBit_and, Nat.testBit_and, Nat.testBit_and]
  cases a.testBit i <;> cases b.testBit i <;> cases c.testBit i <;> rfl
theorem pOf_sum (s : S8) (k m : Nat) : pOf s (add k m) = add (add (add (add s.h (rr s.e 6 ^^^ rr s.e 11 ^^^ rr s.e 25)) (chN s.e s.f s.g)) k) m := by
  unfold pOf chN add; omega
theorem qOf_sum (s : S8) : qOf s = add (rr s.a 2 ^^^ rr s.a 13 ^^^ rr s.a 22) (twN s.a s.b s.c) := rfl
/-! ### The count at a tail's end, as it comes up from the last byte on -/
theorem count8_length (x : Nat) : (count8 x).length = 8 := by simp [count8]
theorem count8_drop (x : Nat) {i : Nat} (hi : i < 8) : (count8 x).drop (8 - (i + 1)) = (x / 256 ^ i % 256) :: (count8 x).drop (8 - i) := by
  have hl : 8 - (i + 1) < (count8 x).length := by rw [count8_length]; omega
  have h := List.drop_eq_getElem_cons hl
  have h2 := count8_get x (i := 8 - (i + 1)) (by omega)
  rw [List.getD_eq_getElem?_getD, List.getElem?_eq_getElem hl] at h2
  rw [h, show 8 - (i + 1) + 1 = 8 - i by omega, show (count8 x)[8 - (i + 1)]'hl = _ from h2, show 7 - (8 - (i + 1)) = i by omega, show (256 : Nat) = 2 ^ 8 by rfl, Nat.pow_mul]
/-! ### Primes and their roots -/
def mark (out : List Nat) (k : Nat) : Bool := out.any fun p => decide (p ≤ k) && k % p == 0
/-- What the sieve's rounds from n on still make of what was found. -/
def sieve (many : Nat) : Nat → Nat → List Nat → List Nat
  | 0, _, out => out
  | fuel + 1, n, out => if n < 400 ∧ out.length < many then (if mark out n then sieve many fuel (n + 1) out else sieve many fuel (n + 1) (out ++ [n])) else out
def primesN (many : Nat) : List Nat := sieve many 400 2 []
def hi64 (x y : Nat) : Nat := x * y / 18446744073709551616
def lo64 (x y : Nat) : Nat := x * y % 18446744073709551616
def w64 (x : Nat) : Nat := x % 18446744073709551616
def withinN (x p : Nat) (cube : Bool) : Bool :=
  if cube then
    (let high := w64 (w64 (hi64 x x * x) + hi64 (lo64 x x) x)
     let low := lo64 (lo64 x x) x
     let limit := w64 (p * 4294967296)
     decide (high < limit) || (high == limit && low == 0))
  else decide (hi64 x x < p) || (hi64 x x == p && lo64 x x == 0)
/-- The rounds from i - 1 down to 0. -/
def rootN (p : Nat) (cube : Bool) : Nat → Nat → Nat
  | 0, x => x
  | i + 1, x => rootN p cube i (if withinN (w64 (x + 2 ^ i)) p cube then w64 (x + 2 ^ i) else x)
def rootsN (many : Nat) (cube : Bool) : List Nat := (primesN many).map fun p => rootN p cube 38 0 % 4294967296
theorem primes_8 : primesN 8 = [2, 3, 5, 7, 11, 13, 17, 19] := by decide +kernel
theorem primes_64 : primesN 64 = [2, 3, 5, 7, 11, 13, 17, 19, 23, 29, 31, 37, 41, 43, 47, 53, 59, 61, 67, 71, 73, 79, 83, 89, 97, 101, 103, 107, 109, 113, 127, 131, 137, 139, 149, 151, 157, 163, 167, 173, 179, 181, 191, 193, 197, 199, 211, 223, 227, 229, 233, 239, 241, 251, 257, 263, 269, 271, 277, 281, 283, 293, 307, 311] := by decide +kernel
theorem roots_8 : rootsN 8 false = [seeds.a, seeds.b, seeds.c, seeds.d, seeds.e, seeds.f, seeds.g, seeds.h] := by unfold rootsN; rw [primes_8]; decide +kernel
theorem roots_64 : rootsN 64 true = salts := by unfold rootsN; rw [primes_64]; decide +kernel
end Go.Proofs.YtnnhnlabkbjacaaDoor.ShaM
namespace Go.Proofs.YtnnhnlabkbjacaaDoor
open Go.ChangeShapes Go.WideShapes Go.ChangeAt Go.RowKit
theorem bit_any (x i : Nat) (hx : x < 4294967296) (hi : i < 32) (w : World) :
    Calls Tryd.prog 56 #[.int .u32 x, .int .i64 i] w fun e w' => e = .returned (.int .u32 (ShaM.bitN x i : Nat)) ∧ w = w' := by
  go_enter Tryd.func56, Tryd.ntmps56
  go_wp2
  go_ret
  refine ⟨ret_int ?_, rfl⟩
  unfold ShaM.bitN
  rw [Int.tmod_eq_emod_of_nonneg (Int.ediv_nonneg (by omega) (Int.le_of_lt (Int.pow_pos (by omega))))]
  simp
theorem rcut_any (x n : Nat) (hx : x < 4294967296) (hn : n < 32) (w : World) :
    Calls Tryd.prog 55 #[.int .u32 x, .int .i64 n] w fun e w' => e = .returned (.int .u32 (x / 2 ^ n : Nat)) ∧ w = w' := by
  obtain ⟨P, hP⟩ : ∃ P : Nat, P = 2 ^ n := ⟨_, rfl⟩
  have h1 : P < 4294967296 := by have h := Nat.pow_lt_pow_right (a := 2) (by decide) hn; omega
  have h2 : ¬ P = 0 := by rw [hP]; exact Nat.ne_of_gt (Nat.two_pow_pos n)
  have e0 : (2 : Int) ^ n = (P : Int) := by rw [hP]; simp
  have e : (2 : Int) ^ n % 4294967296 = (P : Int) := by rw [e0]; omega
  clear e0
  have hq : x / P < 4294967296 := Nat.lt_of_le_of_lt (Nat.div_le_self _ _) hx
  obtain ⟨q, hqq⟩ : ∃ q, q = x / P := ⟨_, rfl⟩
  have e2 : (x : Int) / (P : Int) % 4294967296 = (q : Int) := by
    rw [show (x : Int) / (P : Int) = ((x / P : Nat) : Int) by simp, ← hqq]; omega
  rw [← hP, ← hqq]
  have HP := hid hP
  have HQ := hid hqq
  clear hP hqq hq
  go_enter Tryd.func55, Tryd.ntmps55
  go_wp2
  go_ret
  exact ⟨ret_int e2, rfl⟩
theorem rrot_any (x n : Nat) (hx : x < 4294967296) (h0 : 0 < n) (hn : n < 32) (w : World) :
    Calls Tryd.prog 49 #[.int .u32 x, .int .i64 n] w fun e w' => e = .returned (.int .u32 (ShaM.rr x n : Nat)) ∧ w = w' := by
  obtain ⟨P, hP⟩ : ∃ P : Nat, P = 2 ^ n := ⟨_, rfl⟩
  obtain ⟨R, hR⟩ : ∃ R : Nat, R = ShaM.rr x n := ⟨_, rfl⟩
  have h1 : P < 4294967296 := by have h := Nat.pow_lt_pow_right (a := 2) (by decide) hn; omega
  have h2 : ¬ P = 0 := by rw [hP]; exact Nat.ne_of_gt (Nat.two_pow_pos n)
  have e0 : (2 : Int) ^ n = (P : Int) := by rw [hP]; simp
  have e : (2 : Int) ^ n % 4294967296 = (P : Int) := by rw [e0]; omega
  clear e0
  have hs := ShaM.rr_sum hx (Nat.le_of_lt hn)
  have hl := ShaM.rot_low_lt (x := x) (Nat.le_of_lt hn)
  have hr := ShaM.rr_lt hx n
  rw [← hP] at hs hl
  rw [← hR] at hs hr ⊢
  have HP := hid hP
  have HR := hid hR
  have HS := hid hs
  have HL := hid hl
  clear hP hR hs hl
  go_enter Tryd.func49, Tryd.ntmps49
  go_wp2
  go_ret
  refine ⟨ret_int ?_, rfl⟩
  have hs := HS.out
  have hl := HL.out
  have e0 : (2 : Int) ^ n = (P : Int) := by rw [HP.out]; simp
  have e3 : (x : Int) % (P : Int) * 2 ^ (32 - n) = ((x % P * 2 ^ (32 - n) : Nat) : Int) := by simp
  have e4 : (x : Int) / (P : Int) = ((x / P : Nat) : Int) := by simp
  rw [e3, e0, e4]
  generalize x % P * 2 ^ (32 - n) = y at *
  generalize x / P = z at *
  omega
set_option maxHeartbeats 400000 in
theorem chosen_any (e f g : Nat) (he : e < 4294967296) (hf : f < 4294967296) (hg : g < 4294967296) (w : World) :
    Calls Tryd.prog 50 #[.int .u32 e, .int .u32 f, .int .u32 g] w fun r w' => r = .returned (.int .u32 (ShaM.chN e f g : Nat)) ∧ w = w' := by
  have hc := ShaM.chN_lt (e := e) hf hg
  obtain ⟨c, hce⟩ : ∃ c, c = ShaM.chN e f g := ⟨_, rfl⟩
  rw [← hce] at hc ⊢
  have HC := hid hce
  clear hce
  go_enter Tryd.func50, Tryd.ntmps50
  go_wp2_with fail
  go_loop [7, 8] (fun u v => ∃ m o : Nat, m ≤ 32 ∧ v = .int .i64 ((m : Int) - 1) ∧ u = .int .u32 o ∧ o = c / 2 ^ m) (fun _ v => (intOf v + 1).toNat)
  case atStart => exact ⟨32, 0, by omega, rfl, rfl, by rw [Nat.div_eq_of_lt (by omega)]⟩
  case round =>
    obtain ⟨m, o, hm, rfl, rfl, ho⟩ := hrel
    cases m with
    | zero =>
      rw [Nat.pow_zero, Nat.div_one] at ho
      subst ho
      go_wp2_with fail
      go_ret
      exact ⟨rfl, rfl⟩
    | succ i =>
      have hi : i < 32 := by omega
      have e1 : ((i + 1 : Nat) : Int) - 1 = (i : Int) := by omega
      rw [e1]
      have hb := ShaM.chN_bit (e := e) (f := f) (g := g) he hi
      rw [← HC.out] at hb
      have hdv := ShaM.div_bit c i
      rw [← ho] at hdv
      have hle : c / 2 ^ i ≤ c := Nat.div_le_self _ _
      have hbe := ShaM.bitN_lt e i
      have hbf := ShaM.bitN_lt f i
      have hbg := ShaM.bitN_lt g i
      have HO := hid ho
      have HB := hid hb
      have HD := hid hdv
      clear ho hb hdv e1
      have hbc := ShaM.bitN_lt c i
      have ho31 : 2 * o + ShaM.bitN c i < 4294967296 := by have := HD.out; omega
      have ho30 : (o : Int) ≤ 2147483647 := by omega
      generalize hy : ShaM.bitN c i = y at *
      have HY := hid hy
      clear hy
      by_cases h1 : ShaM.bitN e i = 1
      · have t1 : ((ShaM.bitN e i : Nat) : Int) = 1 := by omega
        have hyf : ShaM.bitN f i = y := by have := HB.out; rw [if_pos h1] at this; exact this.symm
        have HT := hid t1
        have HYF := hid hyf
        clear h1 t1 hyf hbe
        go_wp2_with fail
        refine (bit_any g i hg hi w).mono ?_
        rintro r w' ⟨rfl, rfl⟩
        go_wp2_with fail
        refine (bit_any e i he hi w).mono ?_
        rintro r w' ⟨rfl, rfl⟩
        rw [HT.out]
        go_wp2_with fail
        refine (bit_any f i hf hi w).mono ?_
        rintro r w' ⟨rfl, rfl⟩
        rw [HYF.out]
        go_wp2_with fail
        go_round
        case rel => exact ⟨i, c / 2 ^ i, by omega, rfl, by rw [HD.out]; go_num, rfl⟩
        case measure => simp [intOf] <;> omega
      · have t1 : (((ShaM.bitN e i : Nat) : Int) == 1) = false := by rw [beq_eq_false_iff_ne]; omega
        have hyf : ShaM.bitN g i = y := by have := HB.out; rw [if_neg h1] at this; exact this.symm
        have HYF := hid hyf
        clear h1 hyf
        go_wp2_with fail
        refine (bit_any g i hg hi w).mono ?_
        rintro r w' ⟨rfl, rfl⟩
        rw [HYF.out]
        go_wp2_with fail
        refine (bit_any e i he hi w).mono ?_
        rintro r w' ⟨rfl, rfl⟩
        go_wp2_with fail
        go_round
        case rel => exact ⟨i, c / 2 ^ i, by omega, rfl, by rw [HD.out]; go_num, rfl⟩
        case measure => simp [intOf] <;> omega
set_option maxHeartbeats 400000 in
theorem two_any (a b d : Nat) (ha : a < 4294967296) (hb : b < 4294967296) (hd : d < 4294967296) (w : World) :
    Calls Tryd.prog 51 #[.int .u32 a, .int .u32 b, .int .u32 d] w fun r w' => r = .returned (.int .u32 (ShaM.twN a b d : Nat)) ∧ w = w' := by
  have hc := ShaM.twN_lt (a := a) hb hd
  obtain ⟨c, hce⟩ : ∃ c, c = ShaM.twN a b d := ⟨_, rfl⟩
  rw [← hce] at hc ⊢
  have HC := hid hce
  clear hce
  go_enter Tryd.func51, Tryd.ntmps51
  go_wp2_with fail
  go_loop [7, 8] (fun u v => ∃ m o : Nat, m ≤ 32 ∧ v = .int .i64 ((m : Int) - 1) ∧ u = .int .u32 o ∧ o = c / 2 ^ m) (fun _ v => (intOf v + 1).toNat)
  case atStart => exact ⟨32, 0, by omega, rfl, rfl, by rw [Nat.div_eq_of_lt (by omega)]⟩
  case round =>
    obtain ⟨m, o, hm, rfl, rfl, ho⟩ := hrel
    cases m with
    | zero =>
      rw [Nat.pow_zero, Nat.div_one] at ho
      subst ho
      go_wp2_with fail
      go_ret
      exact ⟨rfl, rfl⟩
    | succ i =>
      have hi : i < 32 := by omega
      have e1 : ((i + 1 : Nat) : Int) - 1 = (i : Int) := by omega
      rw [e1]
      have hbt := ShaM.twN_bit a b d i
      rw [← HC.out] at hbt
      have hdv := ShaM.div_bit c i
      rw [← ho] at hdv
      have hle : c / 2 ^ i ≤ c := Nat.div_le_self _ _
      have hba := ShaM.bitN_lt a i
      have hbb := ShaM.bitN_lt b i
      have hbd := ShaM.bitN_lt d i
      have HO := hid ho
      have HB := hid hbt
      have HD := hid hdv
      clear ho hbt hdv e1
      have hbc := ShaM.bitN_lt c i
      have ho31 : 2 * o + ShaM.bitN c i < 4294967296 := by have := HD.out; omega
      have ho30 : (o : Int) ≤ 2147483647 := by omega
      generalize hx : ShaM.bitN a i = x at *
      generalize hy : ShaM.bitN b i = y at *
      generalize hz : ShaM.bitN d i = z at *
      have HX := hid hx
      have HY := hid hy
      have HZ := hid hz
      clear hx hy hz
      go_wp2_with fail
      refine (bit_any a i ha hi w).mono ?_
      rintro r w' ⟨rfl, rfl⟩
      rw [HX.out]
      go_wp2_with fail
      refine (bit_any b i hb hi w).mono ?_
      rintro r w' ⟨rfl, rfl⟩
      rw [HY.out]
      go_wp2_with fail
      refine (bit_any d i hd hi w).mono ?_
      rintro r w' ⟨rfl, rfl⟩
      rw [HZ.out]
      go_wp2_with fail
      go_round
      case rel => exact ⟨i, c / 2 ^ i, by omega, rfl, by rw [HD.out, HB.out]; go_num, rfl⟩
      case measure => simp [intOf] <;> omega
end Go.Proofs.YtnnhnlabkbjacaaDoor
namespace Go.Proofs.YtnnhnlabkbjacaaDoor
open Go.ChangeShapes Go.WideShapes Go.ChangeAt Go.RowKit
theorem ret_bool {a b : Bool} (h : a = b) : Ending.returned (.bool a) = .returned (.bool b) := by rw [h]
theorem hi_lt {x y : Nat} (hx : x < 18446744073709551616) (hy : y < 18446744073709551616) : ShaM.hi64 x y < 18446744073709551616 := by
  unfold ShaM.hi64
  rw [Nat.div_lt_iff_lt_mul (by omega)]
  exact Nat.mul_lt_mul'' hx hy
theorem lo_lt (x y : Nat) : ShaM.lo64 x y < 18446744073709551616 := Nat.mod_lt _ (by omega)
theorem mul64_any (x y : Nat) (hx : x < 18446744073709551616) (hy : y < 18446744073709551616) (w : World) :
    Calls Tryd.prog 59 #[.int .u64 x, .int .u64 y] w fun e w' => e = .returned (.tuple #[.int .u64 (ShaM.hi64 x y : Nat), .int .u64 (ShaM.lo64 x y : Nat)]) ∧ w' = w := Tryd.bits_Mul64 x y hx hy w
/-- What the last test tells. -/
def tellN (high low limit : Nat) : Bool := decide (high < limit) || (high == limit && low == 0)
theorem tell_lt {h l m : Nat} (h1 : h < m) : tellN h l m = true := by unfold tellN; rw [decide_eq_true h1]; rfl
theorem tell_eq {l m : Nat} : tellN m l m = (l == 0) := by unfold tellN; simp
theorem tell_gt {h l m : Nat} (h1 : m < h) : tellN h l m = false := by unfold tellN; simp; omega
set_option maxHeartbeats 400000 in
theorem within_sq (x p : Nat) (hx : x < 18446744073709551616) (hp : p < 4294967296) (w : World) :
    Calls Tryd.prog 54 #[.int .u64 x, .int .u64 p, .bool false] w fun e w' => e = .returned (.bool (ShaM.withinN x p false)) ∧ w = w' := by
  have hw : ShaM.withinN x p false = tellN (ShaM.hi64 x x) (ShaM.lo64 x x) p := rfl
  rw [hw]
  clear hw
  have h1 := hi_lt hx hx
  have h2 := lo_lt x x
  have M := mul64_any x x hx hx w
  generalize ShaM.hi64 x x = H at *
  generalize ShaM.lo64 x x = L at *
  go_enter Tryd.func54, Tryd.ntmps54
  rcases Nat.lt_trichotomy H p with h | h | h
  · have t1 : decide (H < p) = true := decide_eq_true h
    have t3 : (p ≤ H) = False := by simp; omega
    have E := hid (tell_lt (l := L) h)
    clear h
    go_wp2_with fail
    refine M.mono ?_
    rintro e w' ⟨rfl, rfl⟩
    go_wp2_with fail
    go_ret
    exact ⟨by rw [E.out]; rfl, rfl⟩
  · subst h
    have t1 : decide (H < H) = false := decide_eq_false (by omega)
    by_cases h0 : L = 0
    · have t2 : ((L : Int) == 0) = true := by rw [beq_iff_eq]; omega
      have E : tellN H L H = true := by rw [tell_eq]; simp [h0]
      have EH := hid E
      clear h0 E
      go_wp2_with fail
      refine M.mono ?_
      rintro e w' ⟨rfl, rfl⟩
      go_wp2_with fail
      go_ret
      exact ⟨by rw [EH.out]; rfl, rfl⟩
    · have t2 : ((L : Int) == 0) = false := by rw [beq_eq_false_iff_ne]; omega
      have E : tellN H L H = false := by rw [tell_eq]; simp [h0]
      have EH := hid E
      clear h0 E
      go_wp2_with fail
      refine M.mono ?_
      rintro e w' ⟨rfl, rfl⟩
      go_wp2_with fail
      go_ret
      exact ⟨by rw [EH.out]; rfl, rfl⟩
  · have t1 : decide (H < p) = false := decide_eq_false (by omega)
    have t3 : (p ≤ H) = True := by simp; omega
    have t2 : ((H : Int) == (p : Int)) = false := by rw [beq_eq_false_iff_ne]; omega
    have E := hid (tell_gt (l := L) h)
    clear h
    go_wp2_with fail
    refine M.mono ?_
    rintro e w' ⟨rfl, rfl⟩
    go_wp2_with fail
    go_ret
    exact ⟨by rw [E.out]; rfl, rfl⟩
set_option maxHeartbeats 400000 in
theorem within_cube (x p : Nat) (hx : x < 18446744073709551616) (hp : p < 4294967296) (w : World) :
    Calls Tryd.prog 54 #[.int .u64 x, .int .u64 p, .bool true] w fun e w' => e = .returned (.bool (ShaM.withinN x p true)) ∧ w = w' := by
  have hw : ShaM.withinN x p true = tellN (ShaM.w64 (ShaM.w64 (ShaM.hi64 x x * x) + ShaM.hi64 (ShaM.lo64 x x) x)) (ShaM.lo64 (ShaM.lo64 x x) x) (ShaM.w64 (p * 4294967296)) := rfl
  rw [hw]
  clear hw
  have h1 := hi_lt hx hx
  have h2 := lo_lt x x
  have M := mul64_any x x hx hx w
  have M2 := mul64_any (ShaM.lo64 x x) x h2 hx w
  have h3 := hi_lt h2 hx
  have h4 := lo_lt (ShaM.lo64 x x) x
  generalize ShaM.hi64 (ShaM.lo64 x x) x = C at *
  generalize ShaM.lo64 (ShaM.lo64 x x) x = L at *
  generalize ShaM.hi64 x x = H0 at *
  generalize ShaM.lo64 x x = L0 at *
  have e1 : IntKind.u64.wrap ((H0 : Int) * (x : Int)) = ((ShaM.w64 (H0 * x) : Nat) : Int) := by rw [IntKind.wrap_u64]; unfold ShaM.w64; simp
  have e2 : IntKind.u64.wrap (((ShaM.w64 (H0 * x) : Nat) : Int) + (C : Int)) = ((ShaM.w64 (ShaM.w64 (H0 * x) + C) : Nat) : Int) := by rw [IntKind.wrap_u64]; unfold ShaM.w64; simp
  have e3 : (p : Int) * 4294967296 = ((ShaM.w64 (p * 4294967296) : Nat) : Int) := by unfold ShaM.w64; omega
  have hH : ShaM.w64 (ShaM.w64 (H0 * x) + C) < 18446744073709551616 := Nat.mod_lt _ (by omega)
  have hG : ShaM.w64 (H0 * x) < 18446744073709551616 := Nat.mod_lt _ (by omega)
  have hp' : ShaM.w64 (p * 4294967296) < 18446744073709551616 := Nat.mod_lt _ (by omega)
  generalize ShaM.w64 (ShaM.w64 (H0 * x) + C) = H at *
  generalize ShaM.w64 (H0 * x) = G at *
  generalize ShaM.w64 (p * 4294967296) = q at *
  go_enter Tryd.func54, Tryd.ntmps54
  rcases Nat.lt_trichotomy H q with h | h | h
  · have t1 : decide (H < q) = true := decide_eq_true h
    have t3 : (q ≤ H) = False := by simp; omega
    have E := hid (tell_lt (l := L) h)
    clear h
    go_wp2_with fail
    refine M.mono ?_
    rintro e w' ⟨rfl, rfl⟩
    go_wp2_with fail
    refine M2.mono ?_
    rintro e w' ⟨rfl, rfl⟩
    go_wp2_with fail
    go_ret
    exact ⟨by rw [E.out]; rfl, rfl⟩
  · subst h
    have t1 : decide (H < H) = false := decide_eq_false (by omega)
    by_cases h0 : L = 0
    · have t2 : ((L : Int) == 0) = true := by rw [beq_iff_eq]; omega
      have E : tellN H L H = true := by rw [tell_eq]; simp [h0]
      have EH := hid E
      clear h0 E
      go_wp2_with fail
      refine M.mono ?_
      rintro e w' ⟨rfl, rfl⟩
      go_wp2_with fail
      refine M2.mono ?_
      rintro e w' ⟨rfl, rfl⟩
      go_wp2_with fail
      go_ret
      exact ⟨by rw [EH.out]; rfl, rfl⟩
    · have t2 : ((L : Int) == 0) = false := by rw [beq_eq_false_iff_ne]; omega
      have E : tellN H L H = false := by rw [tell_eq]; simp [h0]
      have EH := hid E
      clear h0 E
      go_wp2_with fail
      refine M.mono ?_
      rintro e w' ⟨rfl, rfl⟩
      go_wp2_with fail
      refine M2.mono ?_
      rintro e w' ⟨rfl, rfl⟩
      go_wp2_with fail
      go_ret
      exact ⟨by rw [EH.out]; rfl, rfl⟩
  · have t1 : decide (H < q) = false := decide_eq_false (by omega)
    have t3 : (q ≤ H) = True := by simp; omega
    have t2 : ((H : Int) == (q : Int)) = false := by rw [beq_eq_false_iff_ne]; omega
    have E := hid (tell_gt (l := L) h)
    clear h
    go_wp2_with fail
    refine M.mono ?_
    rintro e w' ⟨rfl, rfl⟩
    go_wp2_with fail
    refine M2.mono ?_
    rintro e w' ⟨rfl, rfl⟩
    go_wp2_with fail
    go_ret
    exact ⟨by rw [E.out]; rfl, rfl⟩
theorem within_any (x p : Nat) (cube : Bool) (hx : x < 18446744073709551616) (hp : p < 4294967296) (w : World) :
    Calls Tryd.prog 54 #[.int .u64 x, .int .u64 p, .bool cube] w fun e w' => e = .returned (.bool (ShaM.withinN x p cube)) ∧ w = w' := by
  cases cube
  · exact within_sq x p hx hp w
  · exact within_cube x p hx hp w
set_option maxHeartbeats 400000 in
theorem root_any (p : Nat) (cube : Bool) (hp : p < 4294967296) (w : World) :
    Calls Tryd.prog 47 #[.int .u64 p, .bool cube] w fun e w' => e = .returned (.int .u32 (ShaM.rootN p cube 38 0 % 4294967296 : Nat)) ∧ w = w' := by
  obtain ⟨R, hR⟩ : ∃ R, R = ShaM.rootN p cube 38 0 := ⟨_, rfl⟩
  rw [← hR]
  have HR := hid hR
  clear hR
  go_enter Tryd.func47, Tryd.ntmps47
  go_wp2_with fail
  go_loop [5, 6] (fun u v => ∃ m x : Nat, m ≤ 38 ∧ v = .int .i64 ((m : Int) - 1) ∧ u = .int .u64 x ∧ x < 18446744073709551616 ∧ Hid (ShaM.rootN p cube m x = R)) (fun _ v => (intOf v + 1).toNat)
  case atStart => exact ⟨38, 0, by omega, rfl, rfl, by omega, hid HR.out.symm⟩
  case round =>
    obtain ⟨m, x, hm, rfl, rfl, hx, hr⟩ := hrel
    cases m with
    | zero =>
      obtain rfl : x = R := hr.out
      go_wp2_with fail
      go_ret
      exact ⟨ret_int (by simp), rfl⟩
    | succ i =>
      have hi : i < 38 := by omega
      have e1 : ((i + 1 : Nat) : Int) - 1 = (i : Int) := by omega
      rw [e1]
      obtain ⟨y, hy⟩ : ∃ y, y = ShaM.w64 (x + 2 ^ i) := ⟨_, rfl⟩
      have hyl : y < 18446744073709551616 := by rw [hy]; exact Nat.mod_lt _ (by omega)
      have hpw : 2 ^ i < 2 ^ 38 := Nat.pow_lt_pow_right (by decide) hi
      have e2 : IntKind.u64.wrap ((2 : Int) ^ i) = ((2 ^ i : Nat) : Int) := by
        have h0 : (2 : Int) ^ i = ((2 ^ i : Nat) : Int) := by simp
        generalize 2 ^ i = P at *
        rw [h0]; exact IntWalk.u64_in _ (by omega)
      have hst : ShaM.rootN p cube (i + 1) x = ShaM.rootN p cube i (if ShaM.withinN y p cube then y else x) := by rw [ShaM.rootN, hy]
      have hr2 := hr.out
      rw [hst] at hr2
      have e3 : IntKind.u64.wrap ((x : Int) + ((2 ^ i : Nat) : Int)) = (y : Int) := by rw [hy, IntKind.wrap_u64]; unfold ShaM.w64; omega
      generalize 2 ^ i = P at *
      have HY := hid hy
      have HR2 := hid hr2
      clear hy hr2 hst hr e1
      go_wp2_with fail
      refine (within_any y p cube hyl hp w).mono ?_
      rintro r w' ⟨rfl, rfl⟩
      cases hcs : ShaM.withinN y p cube with
      | true =>
        have hq := HR2.out
        rw [hcs, if_pos rfl] at hq
        have HQ := hid hq
        clear hq hcs HR2
        go_wp2_with fail
        go_round
        case rel => exact ⟨i, y, by omega, rfl, rfl, hyl, HQ⟩
        case measure => simp [intOf] <;> omega
      | false =>
        have hq := HR2.out
        rw [hcs, if_neg (by decide)] at hq
        have HQ := hid hq
        clear hq hcs HR2
        go_wp2_with fail
        go_round
        case rel => exact ⟨i, x, by omega, rfl, rfl, hx, HQ⟩
        case measure => simp [intOf] <;> omega
end Go.Proofs.YtnnhnlabkbjacaaDoor
namespace Go.Proofs.YtnnhnlabkbjacaaDoor
open Go.ChangeShapes Go.WideShapes Go.ChangeAt Go.RowKit
attribute [local go_sem] Gives
theorem elt64 : Elt 79 78 .u64 := elt_of Tryd.underlying79 (by kernel_rfl) (by kernel_rfl) (by kernel_rfl)
theorem elt32 : Elt 73 50 .u32 := elt_of Tryd.underlying73 (by kernel_rfl) (by kernel_rfl) (by kernel_rfl)
theorem elt8 : Elt 22 5 .u8 := elt_of Tryd.underlying22 (by kernel_rfl) (by kernel_rfl) (by kernel_rfl)
theorem info_bool : ∃ i : TypeInfo, Tryd.prog.info? 4 = some i ∧ i.zero = some (.bool false) ∧ i.size = 1 ∧ i.bytes = 1 := by
  have h1 : (Tryd.prog.info? 4).map (·.size) = some 1 := by kernel_rfl
  have h2 : (Tryd.prog.info? 4).map (·.bytes) = some 1 := by kernel_rfl
  have h3 : (Tryd.prog.info? 4).bind (·.zero) = some (.bool false) := by kernel_rfl
  cases hi : Tryd.prog.info? 4 with
  | none => rw [hi] at h1; cases h1
  | some i =>
    rw [hi] at h1 h2 h3
    simp only [Option.map_some, Option.some.injEq, Option.bind_some] at h1 h2 h3
    exact ⟨i, rfl, h3, h1, h2⟩
def bls (n : Nat) (f : Nat → Bool) : Array Value := row n fun j => .bool (f j)
theorem bls_ext {n : Nat} {f g : Nat → Bool} (h : ∀ k, k < n → f k = g k) : bls n f = bls n g := row_ext fun k hk => by rw [h k hk]
theorem get_bls {n : Nat} {f : Nat → Bool} {k : Nat} (h : k < n) : (bls n f)[k]? = some (.bool (f k)) := get_row_lt h
theorem bls_set {n : Nat} {f : Nat → Bool} {k : Nat} {v : Bool} : (bls n f).setIfInBounds k (.bool v) = bls n fun j => if j = k then v else f j := by
  unfold bls
  rw [row_set]
  exact row_ext fun j _ => by by_cases e : j = k <;> simp [e]
theorem run_mkb (w : World) : ∃ w', (Instr.makeSlice 89 (.int .i64 400) (.int .i64 400)).run Tryd.prog w = .ok (.slice (some ⟨w.heap.size, 0, none⟩) 400 400) w' ∧
    Blk w' w.heap.size 4 (bls 400 fun _ => false) ∧ Below w.heap.size w w' := by
  obtain ⟨i, hi, hz, h1, h2⟩ := info_bool
  obtain ⟨w', hr, ho, hg⟩ := run_makeSlice_full (P := Tryd.prog) w w.heap.size 89 4 i (.bool false) 1 Tryd.underlying89 hi hz h1 .i64 .i64 400 (by omega) (by rw [h2]; omega) (by unfold maxLen; omega) (Nat.le_refl _)
  refine ⟨w', hr, ?_, (Below.refl _ _).grown hg (Nat.le_refl _) (fun k e => by cases e)⟩
  rcases ho.2 with ⟨e, _⟩ | ⟨g, cap, cur, hv, _, hgc, _, _, hcs, ht⟩
  · cases e
  · simp only [Value.slice.injEq, Option.some.injEq, Addr.mk.injEq, and_true, true_and] at hv
    obtain ⟨rfl, rfl⟩ := hv
    have hcur : cur = bls 400 fun _ => false := by
      apply Array.ext_getElem?
      intro j
      rw [Nat.mul_one] at hcs ht
      unfold bls
      rw [get_row]
      by_cases hj : j < 400
      · rw [if_pos hj]
        have h3 : (madeCells (Value.cells (.bool false)) 400).toList[j]? = some (.bool false) := by
          rw [Array.getElem?_toList]
          unfold madeCells
          rw [Array.getElem?_map, Array.getElem?_range, if_pos hj]
          simp [Value.cells, Nat.mod_one]
        rw [← ht, List.getElem?_take_of_lt hj, Array.getElem?_toList] at h3
        exact h3
      · rw [if_neg hj, Array.getElem?_eq_none (by omega)]
    rw [← hcur]
    exact hgc
theorem mkb {ops : Array Oper} {Q : Exit → Act → World → Prop} {a : Act} {w : World} {rest : List Oper} {dst : Option Tmp} {ty : TypeId} {pos : String} {after : Array Edge} {x y : Operand}
    (hx : a.eval x = .int .i64 400) (hy : a.eval y = .int .i64 400) (h : ∀ w', Blk w' w.heap.size 4 (bls 400 fun _ => false) → Below w.heap.size w w' → wpList Tryd.prog ops Q rest (a.put dst (.slice (some ⟨w.heap.size, 0, none⟩) 400 400)) w') :
    wpList Tryd.prog ops Q (⟨dst, .makeSlice 89 x y, ty, pos, after, none⟩ :: rest) a w := by
  obtain ⟨w', hr, h1, h2⟩ := run_mkb w
  refine wpList_plain rfl fun K hK => ?_
  unfold Oper.wp execOp
  simp only [Sem.run_bind, hx, hy, hr, Result.andThen_ok]
  exact hK _ _ (h w' h1 h2)
/-- What is marked when the multiples of n below k are. -/
def markTo (out : List Nat) (n k j : Nat) : Bool := ShaM.mark out j || (decide (n ≤ j) && j % n == 0 && decide (j < k))
theorem markTo_zero (out : List Nat) (n j : Nat) : markTo out n n j = ShaM.mark out j := by
  unfold markTo
  have : (decide (n ≤ j) && j % n == 0 && decide (j < n)) = false := by
    rw [Bool.and_eq_false_iff, Bool.and_eq_false_iff]
    by_cases h : n ≤ j
    · right; simp; omega
    · left; left; simp; omega
  rw [this, Bool.or_false]
theorem markTo_full (out : List Nat) (n k j : Nat) (h : j < k) : markTo out n k j = ShaM.mark (out ++ [n]) j := by
  unfold markTo ShaM.mark
  rw [List.any_append, decide_eq_true h, Bool.and_true]
  simp
theorem markTo_step (out : List Nat) {n c : Nat} (hn : 0 < n) (hc : 1 ≤ c) (j : Nat) : (if j = n * c then true else markTo out n (n * c) j) = markTo out n (n * c + n) j := by
  unfold markTo
  by_cases e : j = n * c
  · subst e
    have h1 : n ≤ n * c := Nat.le_mul_of_pos_right n hc
    rw [if_pos rfl, decide_eq_true h1, Nat.mul_mod_right, decide_eq_true (show n * c < n * c + n by omega)]
    simp
  · rw [if_neg e]
    congr 1
    by_cases h : j < n * c
    · rw [decide_eq_true h, decide_eq_true (show j < n * c + n by omega)]
    · by_cases h2 : j < n * c + n
      · have h3 : ¬ j % n = 0 := by
          obtain ⟨r, hr⟩ : ∃ r, j = n * c + r := ⟨j - n * c, by omega⟩
          rw [hr, Nat.mul_add_mod, Nat.mod_eq_of_lt (by omega)]
          omega
        rw [decide_eq_false h, decide_eq_true h2]
        simp [h3]
      · rw [decide_eq_false h, decide_eq_false h2]
theorem sieve_len {many : Nat} : ∀ (fuel n : Nat) (out : List Nat), out.length ≤ (ShaM.sieve many fuel n out).length
  | 0, n, out => Nat.le_refl _
  | fuel + 1, n, out => by
    rw [ShaM.sieve]
    split
    · split
      · exact sieve_len fuel _ _
      · refine Nat.le_trans ?_ (sieve_len fuel _ _)
        simp
    · exact Nat.le_refl _
set_option maxHeartbeats 1000000 in
set_option maxRecDepth 100000 in
theorem primes_any (many : Nat) (hm : many ≤ 1000) (w : World) :
    Calls Tryd.prog 46 #[.int .i64 many] w fun e w' => ∃ A cap, e = .returned (.slice A (ShaM.primesN many).length cap) ∧ (ShaM.primesN many).length ≤ cap ∧ cap ≤ maxLen ∧ Nums .u64 w' w'.heap.size A (ShaM.primesN many) ∧ Below w.heap.size w w' := by
  obtain ⟨R, hR⟩ : ∃ R, R = ShaM.primesN many := ⟨_, rfl⟩
  rw [← hR]
  have HR := hid hR
  clear hR
  go_enter Tryd.func46, Tryd.ntmps46
  go_wp2_with ((with_reducible apply mkb); rfl; rfl; intro w3 b3 h3)
  go_loopw [4, 5] (fun u v wr => ∃ (n f : Nat) (out : List Nat) (A : Option Addr) (cap : Nat), 2 ≤ n ∧ n ≤ 400 ∧ n + f = 402 ∧ v = .int .i64 n ∧ u = .slice A out.length cap ∧ out.length ≤ n ∧ Hid (Own 78 .u64 wr (w.heap.size + 1) u out) ∧ Blk wr w.heap.size 4 (bls 400 (ShaM.mark out)) ∧ Hid (Below w.heap.size w wr) ∧ Hid (ShaM.sieve many f n out = R)) (fun _ v _ => 400 - (intOf v).toNat)
  case atStart => exact ⟨2, 400, [], none, 0, by omega, by omega, by omega, rfl, rfl, by simp, hid Own.nil, b3, hid h3, hid HR.out.symm⟩
  case round =>
    clear b3 h3
    obtain ⟨n, f, out, A, cap, hn2, hn, hf, rfl, rfl, hol, hown, hbl, hbel, hsv⟩ := hrel
    have hexit : out = R → ∃ A' cap', Ending.returned (.slice A out.length cap) = .returned (.slice A' R.length cap') ∧ R.length ≤ cap' ∧ cap' ≤ maxLen ∧ Nums .u64 wr wr.heap.size A' R ∧ Below w.heap.size w wr := fun e => by
      subst e
      obtain ⟨A', cap', e1, e2, e3, e4⟩ := hown.out.any
      simp only [Value.slice.injEq, true_and] at e1
      obtain ⟨rfl, rfl⟩ := e1
      exact ⟨A, cap, rfl, e2, e3, e4, hbel.out⟩
    have HX := hid hexit
    clear hexit
    obtain ⟨f, rfl⟩ : ∃ f', f = f' + 1 := ⟨f - 1, by omega⟩
    have hst := hsv.out
    rw [ShaM.sieve] at hst
    by_cases h4 : n < 400
    · have t4 : (n : Int) < 400 := by omega
      by_cases hlm : out.length < many
      · have t5 : decide (out.length < many) = true := decide_eq_true hlm
        rw [if_pos ⟨h4, hlm⟩] at hst
        have HST := hid hst
        clear hst hsv HX
        have q1 : wr.cell? ⟨w.heap.size, n, none⟩ = some (.bool (ShaM.mark out n)) := by rw [hbl.cell, get_bls h4]
        cases hmk : ShaM.mark out n with
        | true =>
          rw [hmk] at q1
          have hq := HST.out
          rw [if_pos hmk] at hq
          have HQ := hid hq
          clear hq hmk HST
          have HBL := hid hbl
          clear hbl
          go_wp2_with fail
          go_roundw
          case rel => exact ⟨n + 1, f, out, A, cap, by omega, by omega, by omega, by go_num, rfl, by omega, hown, HBL.out, hbel, HQ⟩
          case measure => simp [intOf] <;> omega
        | false =>
          rw [hmk] at q1
          have hq := HST.out
          rw [if_neg (by rw [hmk]; decide)] at hq
          have HQ := hid hq
          clear hq hmk HST
          have hwz := hbel.out.size
          have HBL := hid hbl
          clear hbl
          go_wp2_with (at_builtin; (with_reducible apply wappN elt64); rfl; rfl; exact hown.out.alloc _; exact nums_one (x := n) (B := wr.heap.size + 1) rfl (Nat.lt_succ_self _); rfl; omega; (simp; omega); intro v' w4 hown4 hgr4)
          have b4 := (HBL.out.alloc (.cells #[.int .u64 (n : Nat)] 78)).grown hgr4 hown.out (Nat.lt_succ_self _)
          have bel4 := below_grown (hbel.out.alloc hwz (.cells #[.int .u64 (n : Nat)] 78)) hgr4 hown.out (Nat.le_succ _) (Nat.le_refl _)
          have ho1 : (out ++ [n]).length ≤ n + 1 := by rw [List.length_append, List.length_singleton]; omega
          rw [bls_ext (g := markTo out n (n * 1)) fun k _ => by rw [Nat.mul_one, markTo_zero]] at b4
          have O4 := hid hown4
          have BEL4 := hid bel4
          have B4 := hid b4
          clear hown4 bel4 b4 hgr4 HBL q1
          go_loopw [6] (fun v w5 => ∃ c m : Nat, 1 ≤ c ∧ m = n * c ∧ m < 800 ∧ v = .int .i64 m ∧ Hid (Own 78 .u64 w5 (w.heap.size + 1) v' (out ++ [n])) ∧ Blk w5 w.heap.size 4 (bls 400 (markTo out n m)) ∧ Hid (Below w.heap.size w w5)) (fun v _ => 800 - (intOf v).toNat)
          case atStart => exact ⟨1, n, by omega, by rw [Nat.mul_one], by omega, rfl, O4, by have := B4.out; rwa [Nat.mul_one] at this, BEL4⟩
          case round =>
            clear O4 BEL4 B4
            obtain ⟨c, m, hc, hm2, hm8, rfl, O5, b5, BEL5⟩ := hrel
            have HM2 := hid hm2
            clear hm2
            by_cases h5 : m < 400
            · have t6 : (m : Int) < 400 := by omega
              have q2 := b5.frozen m
              have q3 : wr.cell? ⟨w.heap.size, m, none⟩ = some (.bool (markTo out n m m)) := by rw [b5.cell, get_bls h5]
              have B5 := hid b5
              clear b5
              go_wp2_with fail
              go_roundw
              case rel =>
                refine ⟨c + 1, m + n, by omega, by rw [HM2.out, Nat.mul_succ], by omega, by go_num, hid ?_, ?_, hid (BEL5.out.setCell (Nat.le_refl _) _)⟩
                · refine ⟨O5.out.1, ?_⟩
                  rcases O5.out.2 with h' | ⟨g, cap', cur, hv, hB, hg, hr⟩
                  · exact .inl h'
                  · exact .inr ⟨g, cap', cur, hv, hB, Blk.setCell_other (t := 78) (cs := cur) hg (by show w.heap.size ≠ g; omega) _, hr⟩
                · have h := B5.out.setCell_same m (.bool true)
                  rw [bls_set, bls_ext (g := markTo out n (m + n)) fun k _ => by rw [HM2.out]; exact markTo_step out (by omega) hc k] at h
                  exact h
              case measure => simp [intOf] <;> omega
            · have t6 : decide ((m : Int) < 400) = false := by simp; omega
              rw [bls_ext (g := ShaM.mark (out ++ [n])) fun k hk => markTo_full out n m k (by omega)] at b5
              have B5 := hid b5
              clear b5
              obtain ⟨A2, c2, e1, _, _, _⟩ := O5.out.any
              subst e1
              go_wp2_with fail
              go_roundw
              case rel => exact ⟨n + 1, f, out ++ [n], A2, c2, by omega, by omega, by omega, by go_num, rfl, ho1, O5, B5.out, BEL5, HQ⟩
              case measure => simp [intOf] <;> omega
      · have t5 : decide (out.length < many) = false := decide_eq_false hlm
        rw [if_neg (by omega)] at hst
        have HE := hid (HX.out hst)
        clear hst HX hsv hbl
        go_wp2_with fail
        go_ret
        exact HE.out
    · have t4 : decide ((n : Int) < 400) = false := by simp; omega
      rw [if_neg (by omega)] at hst
      have HE := hid (HX.out hst)
      clear hst HX hsv hbl
      go_wp2_with fail
      go_ret
      exact HE.out
theorem nums_at {l : List Nat} {i : Nat} (h : i < l.length) : l.getD i 0 = l[i] := by
  rw [List.getD_eq_getElem?_getD, List.getElem?_eq_getElem h]; rfl
/-- A slice of the numbers l that was made anew. -/
def Fresh (k : IntKind) (w w' : World) (e : Ending) (l : List Nat) : Prop := ∃ A cap, e = .returned (.slice A l.length cap) ∧ l.length ≤ cap ∧ cap ≤ maxLen ∧ Nums k w' w'.heap.size A l ∧ Below w.heap.size w w'
theorem Own.fresh {e : TypeId} {k : IntKind} {w0 w : World} {B : Nat} {v : Value} {l : List Nat} (h : Own e k w B v l) (hb : Below w0.heap.size w0 w) : Fresh k w0 w (.returned v) l := by
  obtain ⟨A, cap, rfl, h1, h2, h3⟩ := h.any
  exact ⟨A, cap, rfl, h1, h2, h3, hb⟩
set_option maxHeartbeats 400000 in
set_option maxRecDepth 100000 in
theorem roots_any (many : Nat) (cube : Bool) (hm : many ≤ 1000) (hp : ∀ p ∈ ShaM.primesN many, p < 400) (hn : (ShaM.primesN many).length ≤ 1000) (w : World) :
    Calls Tryd.prog 41 #[.int .i64 many, .bool cube] w fun e w' => Fresh .u32 w w' e (ShaM.rootsN many cube) := by
  unfold ShaM.rootsN
  have M := primes_any many hm w
  generalize ShaM.primesN many = P at *
  have HP := hid hp
  clear hp
  obtain ⟨m, hmP⟩ : ∃ m, m = P.length := ⟨_, rfl⟩
  rw [← hmP] at M hn
  go_enter Tryd.func41, Tryd.ntmps41
  have HM0 := hid hmP
  clear hmP
  go_wp2_with fail
  refine M.mono ?_
  rintro e w1 ⟨A, cap, rfl, h1, h2, h3, h4⟩
  have hmP := HM0.out
  clear M
  have H3 := hid h3
  have H4 := hid h4
  have HM := hid hmP
  clear h3 h4 hmP
  go_wp2_with fail
  go_loopw [6, 7] (fun u v wr => ∃ (i : Nat) (vo : Value), i ≤ m ∧ v = .int .i64 i ∧ u = vo ∧ Hid (Own 50 .u32 wr w1.heap.size vo ((P.take i).map fun p => ShaM.rootN p cube 38 0 % 4294967296)) ∧ Hid (Below w1.heap.size w1 wr)) (fun _ v _ => m - (intOf v).toNat)
  case atStart => exact ⟨0, _, Nat.zero_le _, rfl, rfl, hid Own.nil, hid (Below.refl _ _)⟩
  case round =>
    obtain ⟨i, vo, hi, rfl, rfl, ho, hb⟩ := hrel
    by_cases hlt : i < m
    · have ti : (i : Int) < (m : Int) := by omega
      have hiP : i < P.length := by rw [← HM.out]; exact hlt
      obtain ⟨b, o, rfl, hB, hr⟩ := H3.out (by omega)
      have q1 : wr.cell? ⟨b, o + i, none⟩ = some (.int .u64 (P.getD i 0 : Nat)) := (hb.out.cell (p := ⟨b, o + i, none⟩) hB).trans (hr i hiP)
      have hpl : P.getD i 0 < 400 := by rw [nums_at hiP]; exact HP.out _ (List.getElem_mem hiP)
      obtain ⟨p, hpp⟩ : ∃ p, p = P.getD i 0 := ⟨_, rfl⟩
      rw [← hpp] at q1 hpl
      have HPP := hid hpp
      have hsz := hb.out.size
      have hlen : ((P.take i).map fun p => ShaM.rootN p cube 38 0 % 4294967296).length = i := by rw [List.length_map, List.length_take]; omega
      have HLEN := hid hlen
      clear hpp hr hlen
      go_wp2_with fail
      refine (root_any p cube (by omega) wr).mono ?_
      rintro e w' ⟨rfl, rfl⟩
      generalize hR : ShaM.rootN p cube 38 0 % 4294967296 = R
      have HR := hid hR
      clear hR q1
      go_wp2_with (at_builtin; (with_reducible apply wappN elt32); rfl; rfl; exact ho.out.alloc _; exact nums_one (x := R) (B := wr.heap.size + 1) rfl (Nat.lt_succ_self _); rfl; (rw [HLEN.out]; omega); (simp; omega); intro v' w4 hown4 hgr4)
      have bel4 := below_grown (hb.out.alloc hsz (.cells #[.int .u32 (R : Nat)] 50)) hgr4 ho.out (Nat.le_refl _) (Nat.le_refl _)
      go_roundw
      case rel =>
        refine ⟨i + 1, v', by omega, by go_num, rfl, hid ?_, hid bel4⟩
        rw [List.take_succ_eq_append_getElem hiP, List.map_append, List.map_singleton, ← nums_at hiP, ← HPP.out, HR.out]
        exact hown4
      case measure => simp [intOf] <;> omega
    · obtain rfl : i = m := by omega
      have hfin := ho.out.fresh (H4.out.trans (hb.out.mono H4.out.size))
      rw [HM.out, List.take_length] at hfin
      have HF := hid hfin
      clear hfin ho
      go_wp2_with fail
      go_ret
      exact HF.out
theorem salts_any (w : World) : Calls Tryd.prog 41 #[.int .i64 64, .bool true] w fun e w' => Fresh .u32 w w' e ShaM.salts := by
  have h := roots_any 64 true (by omega) (by rw [ShaM.primes_64]; decide) (by rw [ShaM.primes_64]; decide) w
  rw [ShaM.roots_64] at h
  exact h
theorem seeds_any (w : World) : Calls Tryd.prog 41 #[.int .i64 8, .bool false] w fun e w' => Fresh .u32 w w' e [ShaM.seeds.a, ShaM.seeds.b, ShaM.seeds.c, ShaM.seeds.d, ShaM.seeds.e, ShaM.seeds.f, ShaM.seeds.g, ShaM.seeds.h] := by
  have h := roots_any 8 false (by omega) (by rw [ShaM.primes_8]; decide) (by rw [ShaM.primes_8]; decide) w
  rw [ShaM.roots_8] at h
  exact h
end Go.Proofs.YtnnhnlabkbjacaaDoor
namespace Go.Proofs.YtnnhnlabkbjacaaDoor
open Go.ChangeShapes Go.WideShapes Go.ChangeAt Go.RowKit
attribute [local go_sem] Gives
set_option maxHeartbeats 400000 in
theorem ppass_bad (s : ByteArray) (h : s.size < 1 ∨ 48 < s.size) (w : World) :
    Calls Tryd.prog 13 #[.string s] w fun e w' => e = .returned (.tuple #[.slice none 0 0, .int .i64 2]) ∧ w = w' := by
  go_enter Tryd.func13, Tryd.ntmps13
  by_cases h1 : s.size < 1
  · have t1 : decide ((s.size : Int) < 1) = true := decide_eq_true (by omega)
    clear h
    go_wp2_with fail
    go_ret2
    exact ⟨rfl, rfl⟩
  · have t1 : decide ((s.size : Int) < 1) = false := decide_eq_false (by omega)
    have t2 : decide ((48 : Int) < (s.size : Int)) = true := decide_eq_true (by omega)
    clear h h1
    go_wp2_with fail
    go_ret2
    exact ⟨rfl, rfl⟩
set_option maxHeartbeats 400000 in
theorem ppass_any (s : ByteArray) (h1 : 1 ≤ s.size) (h2 : s.size ≤ 48) (w : World) :
    Calls Tryd.prog 13 #[.string s] w fun e w' => ∃ v, e = .returned (.tuple #[v, .int .i64 0]) ∧ Own 5 .u8 w' w.heap.size v (s.size :: nats s) ∧ Below w.heap.size w w' := by
  go_enter Tryd.func13, Tryd.ntmps13
  have t1 : decide ((s.size : Int) < 1) = false := decide_eq_false (by omega)
  have t2 : decide ((48 : Int) < (s.size : Int)) = false := decide_eq_false (by omega)
  have e1 : IntKind.u8.wrap (s.size : Int) = (s.size : Int) := IntWalk.u8_in _ (by omega)
  go_wp2_with (at_builtin; (with_reducible apply wappS); rfl; rfl; exact Own.lit1 (Nat.le_refl _); (simp; omega); (simp); intro v' w4 o4 g4)
  have O4 := hid o4
  have B4 := hid (below_grown ((Below.refl w.heap.size w).alloc (Nat.le_refl _) (.cells #[.int .u8 (s.size : Nat)] 5)) g4 (Own.lit1 (w := w) (x := s.size) (Nat.le_refl _)) (Nat.le_refl _) (Nat.le_refl _))
  clear o4 g4
  go_wp2_with fail
  go_ret2
  exact ⟨_, rfl, O4.out, B4.out⟩
set_option maxHeartbeats 400000 in
theorem rpwd_bad (s : ByteArray) (h : s.size < 1 ∨ 48 < s.size) (w : World) :
    Calls Tryd.prog 14 #[.string s] w fun e w' => e = .returned (.tuple #[.slice none 0 0, .int .i64 2]) ∧ w = w' := by
  go_enter Tryd.func14, Tryd.ntmps14
  by_cases h1 : s.size < 1
  · have e0 : s.size = 0 := by omega
    clear h h1
    go_wp2_with fail
    go_ret2
    exact ⟨rfl, rfl⟩
  · have t1 : ((s.size : Int) == 0) = false := by rw [beq_eq_false_iff_ne]; omega
    have t2 : decide ((48 : Int) < (s.size : Int)) = true := decide_eq_true (by omega)
    clear h
    go_wp2_with fail
    go_ret2
    exact ⟨rfl, rfl⟩
set_option maxHeartbeats 400000 in
theorem rpwd_any (s : ByteArray) (h1 : 1 ≤ s.size) (h2 : s.size ≤ 48) (w : World) :
    Calls Tryd.prog 14 #[.string s] w fun e w' => ∃ v, e = .returned (.tuple #[v, .int .i64 0]) ∧ Own 5 .u8 w' w.heap.size v (s.size :: nats s) ∧ Below w.heap.size w w' := by
  go_enter Tryd.func14, Tryd.ntmps14
  have t1 : ((s.size : Int) == 0) = false := by rw [beq_eq_false_iff_ne]; omega
  have t2 : decide ((48 : Int) < (s.size : Int)) = false := decide_eq_false (by omega)
  have e1 : IntKind.u8.wrap (s.size : Int) = (s.size : Int) := IntWalk.u8_in _ (by omega)
  go_wp2_with fail
  have O1 := hid (Own.lit1 (w := w) (B := w.heap.size) (x := s.size) (Nat.le_refl _))
  have B1 := hid ((Below.refl w.heap.size w).alloc (Nat.le_refl _) (.cells #[.int .u8 (s.size : Nat)] 5))
  clear t1 t2 e1
  go_loopw [4, 5] (fun u v wr => ∃ (i : Nat) (vs : Value), i ≤ s.size ∧ v = .int .i64 i ∧ u = vs ∧ Hid (Own 5 .u8 wr w.heap.size vs (s.size :: (nats s).take i)) ∧ Hid (Below w.heap.size w wr)) (fun _ v _ => s.size - (intOf v).toNat)
  case atStart => exact ⟨0, _, by omega, rfl, rfl, O1, B1⟩
  case round =>
    clear O1 B1
    obtain ⟨i, vs, hi, rfl, rfl, ho, hb⟩ := hrel
    by_cases hlt : i < s.size
    · have ti : (i : Int) < (s.size : Int) := by omega
      have hidx := fun w => run_idxs s hlt w
      have hil : i < (nats s).length := by rw [nats_length]; exact hlt
      have hst : (nats s).take (i + 1) = (nats s).take i ++ [(nats s).getD i 0] := by rw [List.take_succ_eq_append_getElem hil, ← nums_at hil]
      have hx : (nats s).getD i 0 < 256 := by rw [nums_at hil]; exact nats_256 s _ (List.getElem_mem hil)
      generalize (nats s).getD i 0 = x at *
      have HST := hid hst
      have hlen : (s.size :: (nats s).take i).length = i + 1 := by rw [List.length_cons, List.length_take, nats_length]; omega
      have HLEN := hid hlen
      clear hst hlen hil
      go_wp2_with (at_builtin; (with_reducible apply wappN eltB); rfl; rfl; exact ho.out.alloc _; exact nums_one (x := x) (B := wr.heap.size + 1) rfl (Nat.lt_succ_self _); rfl; (rw [HLEN.out]; omega); (simp; have := hb.out.size; omega); intro v' w4 o4 g4)
      have b4 := below_grown (hb.out.alloc hb.out.size (.cells #[.int .u8 (x : Nat)] 5)) g4 ho.out (Nat.le_refl _) (Nat.le_refl _)
      go_roundw
      case rel => exact ⟨i + 1, v', by omega, by go_num, rfl, hid (by rw [HST.out, ← List.cons_append]; exact o4), hid b4⟩
      case measure => simp [intOf] <;> omega
    · obtain rfl : i = s.size := by omega
      have o9 := ho.out
      rw [List.take_of_length_le (by rw [nats_length]; omega)] at o9
      have O9 := hid o9
      clear o9 ho
      go_wp2_with fail
      go_ret2
      exact ⟨_, rfl, O9.out, hb.out⟩
end Go.Proofs.YtnnhnlabkbjacaaDoor
namespace Go.Proofs.YtnnhnlabkbjacaaDoor
theorem ShaM.passes_block {s : ShaM.S8} {k r : List Nat} (h : k.length = 64) : ShaM.passes s (k ++ r) = ShaM.passes (ShaM.pass s (ShaM.at' k)) r := by
  rw [ShaM.passes_append 1 (by omega), ShaM.passes_long (l := k) (by omega), ShaM.passes_short (l := k.drop 64) (by rw [List.length_drop]; omega)]
set_option maxRecDepth 100000
theorem tag_fox_i_m0 : ShaM.sched (ShaM.at' [93, 83, 79, 54, 54, 54, 54, 54, 54, 54, 54, 54, 54, 54, 54, 54, 54, 54, 54, 54, 54, 54, 54, 54, 54, 54, 54, 54, 54, 54, 54, 54, 54, 54, 54, 54, 54, 54, 54, 54, 54, 54, 54, 54, 54, 54, 54, 54, 54, 54, 54, 54, 54, 54, 54, 54, 54, 54, 54, 54, 54, 54, 54, 54]) = [1565740854, 909522486, 909522486, 909522486, 909522486, 909522486, 909522486, 909522486, 909522486, 909522486, 909522486, 909522486, 909522486, 909522486, 909522486, 909522486, 1484848355, 828629987, 3046079234, 3776264696, 2791310139, 2408496505, 1432802191, 4279136217, 40131307, 3440696412, 2761625533, 3109296823, 2464963315, 15183730, 3262041459, 1301009130, 494097387, 911498773, 3591502981, 2081777627, 3068146072, 300753484, 4189014784, 316684472, 482755238, 1789643473, 2292660537, 4028708497, 808784977, 80985466, 663664670, 349427506, 1313325631, 3200613697, 3221973858, 3913925113, 1731109990, 3732668420, 293673707, 3227921096, 3874275074, 2802869092, 2861148269, 1991861016, 193996981, 1258338248, 2361588754, 3500943187] := by decide +kernel
theorem tag_fox_i_s0 : ShaM.steps [1565740854, 909522486, 909522486, 909522486, 909522486, 909522486, 909522486, 909522486, 909522486, 909522486, 909522486, 909522486, 909522486, 909522486, 909522486, 909522486, 1484848355, 828629987, 3046079234, 3776264696, 2791310139, 2408496505, 1432802191, 4279136217, 40131307, 3440696412, 2761625533, 3109296823, 2464963315, 15183730, 3262041459, 1301009130, 494097387, 911498773, 3591502981, 2081777627, 3068146072, 300753484, 4189014784, 316684472, 482755238, 1789643473, 2292660537, 4028708497, 808784977, 80985466, 663664670, 349427506, 1313325631, 3200613697, 3221973858, 3913925113, 1731109990, 3732668420, 293673707, 3227921096, 3874275074, 2802869092, 2861148269, 1991861016, 193996981, 1258338248, 2361588754, 3500943187] 64 ⟨1779033703, 3144134277, 1013904242, 2773480762, 1359893119, 2600822924, 528734635, 1541459225⟩ = ⟨1684200147, 2360816372, 934346168, 2452492707, 1426189322, 3382913752, 1283415264, 654056988⟩ := by decide +kernel
theorem tag_fox_i_p0 : ShaM.pass ⟨1779033703, 3144134277, 1013904242, 2773480762, 1359893119, 2600822924, 528734635, 1541459225⟩ (ShaM.at' [93, 83, 79, 54, 54, 54, 54, 54, 54, 54, 54, 54, 54, 54, 54, 54, 54, 54, 54, 54, 54, 54, 54, 54, 54, 54, 54, 54, 54, 54, 54, 54, 54, 54, 54, 54, 54, 54, 54, 54, 54, 54, 54, 54, 54, 54, 54, 54, 54, 54, 54, 54, 54, 54, 54, 54, 54, 54, 54, 54, 54, 54, 54, 54]) = ⟨3463233850, 1209983353, 1948250410, 931006173, 2786082441, 1688769380, 1812149899, 2195516213⟩ := by
  unfold ShaM.pass
  rw [tag_fox_i_m0, tag_fox_i_s0]
  rfl
theorem tag_fox_i_m1 : ShaM.sched (ShaM.at' [84, 104, 101, 32, 113, 117, 105, 99, 107, 32, 98, 114, 111, 119, 110, 32, 102, 111, 120, 32, 106, 117, 109, 112, 115, 32, 111, 118, 101, 114, 32, 116, 104, 101, 32, 108, 97, 122, 121, 32, 100, 111, 103, 128, 0, 0, 0, 0, 0, 0, 0, 0, 0, 0, 0, 0, 0, 0, 0, 0, 0, 0, 3, 88]) = [1416127776, 1903520099, 1797284466, 1870097952, 1718581280, 1786080624, 1931505526, 1701978228, 1751457900, 1635416352, 1685022592, 0, 0, 0, 0, 856, 1215789539, 3369772837, 1438141474, 147128942, 1286988929, 2236494754, 777899669, 724914221, 1652101295, 2398219790, 395259173, 396037982, 4169268895, 345964178, 2628613065, 352212796, 3932672556, 519796785, 508523907, 1183815677, 2400673158, 3074333110, 2481456119, 3422383585, 4199991306, 1280787848, 2556776200, 1348430178, 1461863882, 3731819580, 3261972228, 655793655, 1593858064, 759378383, 2909831118, 1747216474, 2074102933, 814742857, 1817559613, 3837537694, 1229741528, 3742076030, 3133341155, 2462041720, 1251173789, 3836026743, 3546991780, 3660136386] := by decide +kernel
theorem tag_fox_i_s1 : ShaM.steps [1416127776, 1903520099, 1797284466, 1870097952, 1718581280, 1786080624, 1931505526, 1701978228, 1751457900, 1635416352, 1685022592, 0, 0, 0, 0, 856, 1215789539, 3369772837, 1438141474, 147128942, 1286988929, 2236494754, 777899669, 724914221, 1652101295, 2398219790, 395259173, 396037982, 4169268895, 345964178, 2628613065, 352212796, 3932672556, 519796785, 508523907, 1183815677, 2400673158, 3074333110, 2481456119, 3422383585, 4199991306, 1280787848, 2556776200, 1348430178, 1461863882, 3731819580, 3261972228, 655793655, 1593858064, 759378383, 2909831118, 1747216474, 2074102933, 814742857, 1817559613, 3837537694, 1229741528, 3742076030, 3133341155, 2462041720, 1251173789, 3836026743, 3546991780, 3660136386] 64 ⟨3463233850, 1209983353, 1948250410, 931006173, 2786082441, 1688769380, 1812149899, 2195516213⟩ = ⟨2892205344, 1501564153, 2752293195, 1962128182, 3710653811, 3911201969, 1655987682, 3545320188⟩ := by decide +kernel
theorem tag_fox_i_p1 : ShaM.pass ⟨3463233850, 1209983353, 1948250410, 931006173, 2786082441, 1688769380, 1812149899, 2195516213⟩ (ShaM.at' [84, 104, 101, 32, 113, 117, 105, 99, 107, 32, 98, 114, 111, 119, 110, 32, 102, 111, 120, 32, 106, 117, 109, 112, 115, 32, 111, 118, 101, 114, 32, 116, 104, 101, 32, 108, 97, 122, 121, 32, 100, 111, 103, 128, 0, 0, 0, 0, 0, 0, 0, 0, 0, 0, 0, 0, 0, 0, 0, 0, 0, 0, 3, 88]) = ⟨2060471898, 2711547506, 405576309, 2893134355, 2201768956, 1305004053, 3468137581, 1445869105⟩ := by
  unfold ShaM.pass
  rw [tag_fox_i_m1, tag_fox_i_s1]
  rfl
theorem tag_fox_i : ShaM.sum [93, 83, 79, 54, 54, 54, 54, 54, 54, 54, 54, 54, 54, 54, 54, 54, 54, 54, 54, 54, 54, 54, 54, 54, 54, 54, 54, 54, 54, 54, 54, 54, 54, 54, 54, 54, 54, 54, 54, 54, 54, 54, 54, 54, 54, 54, 54, 54, 54, 54, 54, 54, 54, 54, 54, 54, 54, 54, 54, 54, 54, 54, 54, 54, 84, 104, 101, 32, 113, 117, 105, 99, 107, 32, 98, 114, 111, 119, 110, 32, 102, 111, 120, 32, 106, 117, 109, 112, 115, 32, 111, 118, 101, 114, 32, 116, 104, 101, 32, 108, 97, 122, 121, 32, 100, 111, 103] = ShaM.digest ⟨2060471898, 2711547506, 405576309, 2893134355, 2201768956, 1305004053, 3468137581, 1445869105⟩ := by
  unfold ShaM.sum ShaM.ended
  have e : [93, 83, 79, 54, 54, 54, 54, 54, 54, 54, 54, 54, 54, 54, 54, 54, 54, 54, 54, 54, 54, 54, 54, 54, 54, 54, 54, 54, 54, 54, 54, 54, 54, 54, 54, 54, 54, 54, 54, 54, 54, 54, 54, 54, 54, 54, 54, 54, 54, 54, 54, 54, 54, 54, 54, 54, 54, 54, 54, 54, 54, 54, 54, 54, 84, 104, 101, 32, 113, 117, 105, 99, 107, 32, 98, 114, 111, 119, 110, 32, 102, 111, 120, 32, 106, 117, 109, 112, 115, 32, 111, 118, 101, 114, 32, 116, 104, 101, 32, 108, 97, 122, 121, 32, 100, 111, 103] ++ ShaM.tail (0 + ([93, 83, 79, 54, 54, 54, 54, 54, 54, 54, 54, 54, 54, 54, 54, 54, 54, 54, 54, 54, 54, 54, 54, 54, 54, 54, 54, 54, 54, 54, 54, 54, 54, 54, 54, 54, 54, 54, 54, 54, 54, 54, 54, 54, 54, 54, 54, 54, 54, 54, 54, 54, 54, 54, 54, 54, 54, 54, 54, 54, 54, 54, 54, 54, 84, 104, 101, 32, 113, 117, 105, 99, 107, 32, 98, 114, 111, 119, 110, 32, 102, 111, 120, 32, 106, 117, 109, 112, 115, 32, 111, 118, 101, 114, 32, 116, 104, 101, 32, 108, 97, 122, 121, 32, 100, 111, 103] : List Nat).length) = [93, 83, 79, 54, 54, 54, 54, 54, 54, 54, 54, 54, 54, 54, 54, 54, 54, 54, 54, 54, 54, 54, 54, 54, 54, 54, 54, 54, 54, 54, 54, 54, 54, 54, 54, 54, 54, 54, 54, 54, 54, 54, 54, 54, 54, 54, 54, 54, 54, 54, 54, 54, 54, 54, 54, 54, 54, 54, 54, 54, 54, 54, 54, 54] ++ ([84, 104, 101, 32, 113, 117, 105, 99, 107, 32, 98, 114, 111, 119, 110, 32, 102, 111, 120, 32, 106, 117, 109, 112, 115, 32, 111, 118, 101, 114, 32, 116, 104, 101, 32, 108, 97, 122, 121, 32, 100, 111, 103, 128, 0, 0, 0, 0, 0, 0, 0, 0, 0, 0, 0, 0, 0, 0, 0, 0, 0, 0, 3, 88] ++ []) := by decide +kernel
  rw [e]
  unfold ShaM.seeds
  rw [ShaM.passes_block rfl, tag_fox_i_p0]
  rw [ShaM.passes_block rfl, tag_fox_i_p1]
  rw [ShaM.passes_short (by decide)]
theorem tag_fox_o_m0 : ShaM.sched (ShaM.at' [55, 57, 37, 92, 92, 92, 92, 92, 92, 92, 92, 92, 92, 92, 92, 92, 92, 92, 92, 92, 92, 92, 92, 92, 92, 92, 92, 92, 92, 92, 92, 92, 92, 92, 92, 92, 92, 92, 92, 92, 92, 92, 92, 92, 92, 92, 92, 92, 92, 92, 92, 92, 92, 92, 92, 92, 92, 92, 92, 92, 92, 92, 92, 92]) = [926491996, 1549556828, 1549556828, 1549556828, 1549556828, 1549556828, 1549556828, 1549556828, 1549556828, 1549556828, 1549556828, 1549556828, 1549556828, 1549556828, 1549556828, 1549556828, 3714865294, 42962830, 71224041, 2467512273, 419793414, 1427315712, 3508693916, 3414310394, 2073676349, 1580214183, 1876669726, 817288029, 30058875, 2238447637, 3449114864, 1750348975, 1034487982, 1870231200, 1492350634, 2551253359, 1091581649, 2177230372, 3132317206, 1613577344, 4237171436, 3444518892, 3735190717, 1080276738, 825345298, 2577826517, 1725666600, 266232400, 3552217556, 3447915245, 1034235887, 1366263077, 762175820, 141195417, 1526492843, 3893978693, 2423250948, 2852858871, 495248698, 2978091584, 1082942764, 4181982254, 1183382068, 866141841] := by decide +kernel
theorem tag_fox_o_s0 : ShaM.steps [926491996, 1549556828, 1549556828, 1549556828, 1549556828, 1549556828, 1549556828, 1549556828, 1549556828, 1549556828, 1549556828, 1549556828, 1549556828, 1549556828, 1549556828, 1549556828, 3714865294, 42962830, 71224041, 2467512273, 419793414, 1427315712, 3508693916, 3414310394, 2073676349, 1580214183, 1876669726, 817288029, 30058875, 2238447637, 3449114864, 1750348975, 1034487982, 1870231200, 1492350634, 2551253359, 1091581649, 2177230372, 3132317206, 1613577344, 4237171436, 3444518892, 3735190717, 1080276738, 825345298, 2577826517, 1725666600, 266232400, 3552217556, 3447915245, 1034235887, 1366263077, 762175820, 141195417, 1526492843, 3893978693, 2423250948, 2852858871, 495248698, 2978091584, 1082942764, 4181982254, 1183382068, 866141841] 64 ⟨1779033703, 3144134277, 1013904242, 2773480762, 1359893119, 2600822924, 528734635, 1541459225⟩ = ⟨3554845911, 3276016999, 1131932123, 1909965967, 3317631551, 862414799, 965320497, 1306753097⟩ := by decide +kernel
theorem tag_fox_o_p0 : ShaM.pass ⟨1779033703, 3144134277, 1013904242, 2773480762, 1359893119, 2600822924, 528734635, 1541459225⟩ (ShaM.at' [55, 57, 37, 92, 92, 92, 92, 92, 92, 92, 92, 92, 92, 92, 92, 92, 92, 92, 92, 92, 92, 92, 92, 92, 92, 92, 92, 92, 92, 92, 92, 92, 92, 92, 92, 92, 92, 92, 92, 92, 92, 92, 92, 92, 92, 92, 92, 92, 92, 92, 92, 92, 92, 92, 92, 92, 92, 92, 92, 92, 92, 92, 92, 92]) = ⟨1038912318, 2125183980, 2145836365, 388479433, 382557374, 3463237723, 1494055132, 2848212322⟩ := by
  unfold ShaM.pass
  rw [tag_fox_o_m0, tag_fox_o_s0]
  rfl
theorem tag_fox_o_m1 : ShaM.sched (ShaM.at' [122, 208, 78, 90, 161, 158, 238, 114, 24, 44, 154, 117, 172, 113, 186, 19, 131, 60, 83, 252, 77, 200, 200, 21, 206, 183, 148, 109, 86, 46, 54, 49, 128, 0, 0, 0, 0, 0, 0, 0, 0, 0, 0, 0, 0, 0, 0, 0, 0, 0, 0, 0, 0, 0, 0, 0, 0, 0, 0, 0, 0, 0, 3, 0]) = [2060471898, 2711547506, 405576309, 2893134355, 2201768956, 1305004053, 3468137581, 1445869105, 2147483648, 0, 0, 0, 0, 0, 0, 768, 3317470927, 1931967203, 1309560555, 4232161875, 2199878961, 1433815007, 96181441, 401345156, 2971748208, 3525689588, 2277224760, 3681548119, 68224421, 187918824, 3138597301, 763112752, 2900329290, 3674177272, 776586084, 4245826450, 2384189663, 3331990788, 3540178663, 3245945101, 1100636370, 1287433186, 1245692687, 906843348, 4020893555, 2410450418, 2964470209, 2794221402, 2330270090, 2633729803, 1156228097, 4175975732, 3162069086, 4157531122, 1351189059, 782109178, 3087681302, 1048681065, 2852675464, 2029214994, 3811510533, 3228741452, 4281665153, 2739037895] := by decide +kernel
theorem tag_fox_o_s1 : ShaM.steps [2060471898, 2711547506, 405576309, 2893134355, 2201768956, 1305004053, 3468137581, 1445869105, 2147483648, 0, 0, 0, 0, 0, 0, 768, 3317470927, 1931967203, 1309560555, 4232161875, 2199878961, 1433815007, 96181441, 401345156, 2971748208, 3525689588, 2277224760, 3681548119, 68224421, 187918824, 3138597301, 763112752, 2900329290, 3674177272, 776586084, 4245826450, 2384189663, 3331990788, 3540178663, 3245945101, 1100636370, 1287433186, 1245692687, 906843348, 4020893555, 2410450418, 2964470209, 2794221402, 2330270090, 2633729803, 1156228097, 4175975732, 3162069086, 4157531122, 1351189059, 782109178, 3087681302, 1048681065, 2852675464, 2029214994, 3811510533, 3228741452, 4281665153, 2739037895] 64 ⟨1038912318, 2125183980, 2145836365, 388479433, 382557374, 3463237723, 1494055132, 2848212322⟩ = ⟨3117414582, 2980563000, 827046809, 2470967162, 3632266467, 2061059838, 1043997920, 2203449206⟩ := by decide +kernel
theorem tag_fox_o_p1 : ShaM.pass ⟨1038912318, 2125183980, 2145836365, 388479433, 382557374, 3463237723, 1494055132, 2848212322⟩ (ShaM.at' [122, 208, 78, 90, 161, 158, 238, 114, 24, 44, 154, 117, 172, 113, 186, 19, 131, 60, 83, 252, 77, 200, 200, 21, 206, 183, 148, 109, 86, 46, 54, 49, 128, 0, 0, 0, 0, 0, 0, 0, 0, 0, 0, 0, 0, 0, 0, 0, 0, 0, 0, 0, 0, 0, 0, 0, 0, 0, 0, 0, 0, 0, 3, 0]) = ⟨4156326900, 810779684, 2972883174, 2859446595, 4014823841, 1229330265, 2538053052, 756694232⟩ := by
  unfold ShaM.pass
  rw [tag_fox_o_m1, tag_fox_o_s1]
  rfl
theorem tag_fox_o : ShaM.sum [55, 57, 37, 92, 92, 92, 92, 92, 92, 92, 92, 92, 92, 92, 92, 92, 92, 92, 92, 92, 92, 92, 92, 92, 92, 92, 92, 92, 92, 92, 92, 92, 92, 92, 92, 92, 92, 92, 92, 92, 92, 92, 92, 92, 92, 92, 92, 92, 92, 92, 92, 92, 92, 92, 92, 92, 92, 92, 92, 92, 92, 92, 92, 92, 122, 208, 78, 90, 161, 158, 238, 114, 24, 44, 154, 117, 172, 113, 186, 19, 131, 60, 83, 252, 77, 200, 200, 21, 206, 183, 148, 109, 86, 46, 54, 49] = ShaM.digest ⟨4156326900, 810779684, 2972883174, 2859446595, 4014823841, 1229330265, 2538053052, 756694232⟩ := by
  unfold ShaM.sum ShaM.ended
  have e : [55, 57, 37, 92, 92, 92, 92, 92, 92, 92, 92, 92, 92, 92, 92, 92, 92, 92, 92, 92, 92, 92, 92, 92, 92, 92, 92, 92, 92, 92, 92, 92, 92, 92, 92, 92, 92, 92, 92, 92, 92, 92, 92, 92, 92, 92, 92, 92, 92, 92, 92, 92, 92, 92, 92, 92, 92, 92, 92, 92, 92, 92, 92, 92, 122, 208, 78, 90, 161, 158, 238, 114, 24, 44, 154, 117, 172, 113, 186, 19, 131, 60, 83, 252, 77, 200, 200, 21, 206, 183, 148, 109, 86, 46, 54, 49] ++ ShaM.tail (0 + ([55, 57, 37, 92, 92, 92, 92, 92, 92, 92, 92, 92, 92, 92, 92, 92, 92, 92, 92, 92, 92, 92, 92, 92, 92, 92, 92, 92, 92, 92, 92, 92, 92, 92, 92, 92, 92, 92, 92, 92, 92, 92, 92, 92, 92, 92, 92, 92, 92, 92, 92, 92, 92, 92, 92, 92, 92, 92, 92, 92, 92, 92, 92, 92, 122, 208, 78, 90, 161, 158, 238, 114, 24, 44, 154, 117, 172, 113, 186, 19, 131, 60, 83, 252, 77, 200, 200, 21, 206, 183, 148, 109, 86, 46, 54, 49] : List Nat).length) = [55, 57, 37, 92, 92, 92, 92, 92, 92, 92, 92, 92, 92, 92, 92, 92, 92, 92, 92, 92, 92, 92, 92, 92, 92, 92, 92, 92, 92, 92, 92, 92, 92, 92, 92, 92, 92, 92, 92, 92, 92, 92, 92, 92, 92, 92, 92, 92, 92, 92, 92, 92, 92, 92, 92, 92, 92, 92, 92, 92, 92, 92, 92, 92] ++ ([122, 208, 78, 90, 161, 158, 238, 114, 24, 44, 154, 117, 172, 113, 186, 19, 131, 60, 83, 252, 77, 200, 200, 21, 206, 183, 148, 109, 86, 46, 54, 49, 128, 0, 0, 0, 0, 0, 0, 0, 0, 0, 0, 0, 0, 0, 0, 0, 0, 0, 0, 0, 0, 0, 0, 0, 0, 0, 0, 0, 0, 0, 3, 0] ++ []) := by decide +kernel
  rw [e]
  unfold ShaM.seeds
  rw [ShaM.passes_block rfl, tag_fox_o_p0]
  rw [ShaM.passes_block rfl, tag_fox_o_p1]
  rw [ShaM.passes_short (by decide)]
theorem tag_fox : HmM.tag [107, 101, 121] [84, 104, 101, 32, 113, 117, 105, 99, 107, 32, 98, 114, 111, 119, 110, 32, 102, 111, 120, 32, 106, 117, 109, 112, 115, 32, 111, 118, 101, 114, 32, 116, 104, 101, 32, 108, 97, 122, 121, 32, 100, 111, 103] = ShaM.digest ⟨4156326900, 810779684, 2972883174, 2859446595, 4014823841, 1229330265, 2538053052, 756694232⟩ := by
  unfold HmM.tag
  have e1 : HmM.pad 54 (HmM.blk [107, 101, 121]) ++ [84, 104, 101, 32, 113, 117, 105, 99, 107, 32, 98, 114, 111, 119, 110, 32, 102, 111, 120, 32, 106, 117, 109, 112, 115, 32, 111, 118, 101, 114, 32, 116, 104, 101, 32, 108, 97, 122, 121, 32, 100, 111, 103] = [93, 83, 79, 54, 54, 54, 54, 54, 54, 54, 54, 54, 54, 54, 54, 54, 54, 54, 54, 54, 54, 54, 54, 54, 54, 54, 54, 54, 54, 54, 54, 54, 54, 54, 54, 54, 54, 54, 54, 54, 54, 54, 54, 54, 54, 54, 54, 54, 54, 54, 54, 54, 54, 54, 54, 54, 54, 54, 54, 54, 54, 54, 54, 54, 84, 104, 101, 32, 113, 117, 105, 99, 107, 32, 98, 114, 111, 119, 110, 32, 102, 111, 120, 32, 106, 117, 109, 112, 115, 32, 111, 118, 101, 114, 32, 116, 104, 101, 32, 108, 97, 122, 121, 32, 100, 111, 103] := by decide +kernel
  have e2 : HmM.pad 92 (HmM.blk [107, 101, 121]) = [55, 57, 37, 92, 92, 92, 92, 92, 92, 92, 92, 92, 92, 92, 92, 92, 92, 92, 92, 92, 92, 92, 92, 92, 92, 92, 92, 92, 92, 92, 92, 92, 92, 92, 92, 92, 92, 92, 92, 92, 92, 92, 92, 92, 92, 92, 92, 92, 92, 92, 92, 92, 92, 92, 92, 92, 92, 92, 92, 92, 92, 92, 92, 92] := by decide +kernel
  have e3 : HmM.dl (ShaM.digest ⟨2060471898, 2711547506, 405576309, 2893134355, 2201768956, 1305004053, 3468137581, 1445869105⟩) = [122, 208, 78, 90, 161, 158, 238, 114, 24, 44, 154, 117, 172, 113, 186, 19, 131, 60, 83, 252, 77, 200, 200, 21, 206, 183, 148, 109, 86, 46, 54, 49] := by decide +kernel
  have e4 : [55, 57, 37, 92, 92, 92, 92, 92, 92, 92, 92, 92, 92, 92, 92, 92, 92, 92, 92, 92, 92, 92, 92, 92, 92, 92, 92, 92, 92, 92, 92, 92, 92, 92, 92, 92, 92, 92, 92, 92, 92, 92, 92, 92, 92, 92, 92, 92, 92, 92, 92, 92, 92, 92, 92, 92, 92, 92, 92, 92, 92, 92, 92, 92] ++ [122, 208, 78, 90, 161, 158, 238, 114, 24, 44, 154, 117, 172, 113, 186, 19, 131, 60, 83, 252, 77, 200, 200, 21, 206, 183, 148, 109, 86, 46, 54, 49] = [55, 57, 37, 92, 92, 92, 92, 92, 92, 92, 92, 92, 92, 92, 92, 92, 92, 92, 92, 92, 92, 92, 92, 92, 92, 92, 92, 92, 92, 92, 92, 92, 92, 92, 92, 92, 92, 92, 92, 92, 92, 92, 92, 92, 92, 92, 92, 92, 92, 92, 92, 92, 92, 92, 92, 92, 92, 92, 92, 92, 92, 92, 92, 92, 122, 208, 78, 90, 161, 158, 238, 114, 24, 44, 154, 117, 172, 113, 186, 19, 131, 60, 83, 252, 77, 200, 200, 21, 206, 183, 148, 109, 86, 46, 54, 49] := by decide +kernel
  rw [e1, tag_fox_i, e2, e3, e4, tag_fox_o]
end Go.Proofs.YtnnhnlabkbjacaaDoor
namespace Go.Proofs.YtnnhnlabkbjacaaDoor
set_option maxRecDepth 100000
theorem pb_u1_i_m0 : ShaM.sched (ShaM.at' [70, 87, 69, 69, 65, 89, 68, 82, 54, 54, 54, 54, 54, 54, 54, 54, 54, 54, 54, 54, 54, 54, 54, 54, 54, 54, 54, 54, 54, 54, 54, 54, 54, 54, 54, 54, 54, 54, 54, 54, 54, 54, 54, 54, 54, 54, 54, 54, 54, 54, 54, 54, 54, 54, 54, 54, 54, 54, 54, 54, 54, 54, 54, 54]) = [1180124485, 1096369234, 909522486, 909522486, 909522486, 909522486, 909522486, 909522486, 909522486, 909522486, 909522486, 909522486, 909522486, 909522486, 909522486, 909522486, 1478153759, 1015476735, 2238567758, 4200786946, 2747489537, 2136165977, 412854497, 1148221452, 4216248592, 3588352339, 3478452951, 2329387668, 2125690676, 1530095639, 925954491, 2329498324, 3665431985, 2279804817, 4183156627, 531690734, 3162451092, 1183540370, 628281629, 2257635149, 2098814660, 3546836491, 1150705887, 1026371726, 3246008357, 199654859, 4225988969, 4108882395, 1906408484, 1755453605, 2868965236, 643400618, 677156659, 3200030303, 2916983227, 2732970304, 1623618925, 4281764824, 3069150634, 3554096810, 3130930826, 1246412041, 159790684, 2026149663] := by decide +kernel
theorem pb_u1_i_s0 : ShaM.steps [1180124485, 1096369234, 909522486, 909522486, 909522486, 909522486, 909522486, 909522486, 909522486, 909522486, 909522486, 909522486, 909522486, 909522486, 909522486, 909522486, 1478153759, 1015476735, 2238567758, 4200786946, 2747489537, 2136165977, 412854497, 1148221452, 4216248592, 3588352339, 3478452951, 2329387668, 2125690676, 1530095639, 925954491, 2329498324, 3665431985, 2279804817, 4183156627, 531690734, 3162451092, 1183540370, 628281629, 2257635149, 2098814660, 3546836491, 1150705887, 1026371726, 3246008357, 199654859, 4225988969, 4108882395, 1906408484, 1755453605, 2868965236, 643400618, 677156659, 3200030303, 2916983227, 2732970304, 1623618925, 4281764824, 3069150634, 3554096810, 3130930826, 1246412041, 159790684, 2026149663] 64 ⟨1779033703, 3144134277, 1013904242, 2773480762, 1359893119, 2600822924, 528734635, 1541459225⟩ = ⟨3088693940, 3237401791, 3965771738, 3252162474, 370693708, 3092977631, 2185470989, 2700140231⟩ := by decide +kernel
theorem pb_u1_i_p0 : ShaM.pass ⟨1779033703, 3144134277, 1013904242, 2773480762, 1359893119, 2600822924, 528734635, 1541459225⟩ (ShaM.at' [70, 87, 69, 69, 65, 89, 68, 82, 54, 54, 54, 54, 54, 54, 54, 54, 54, 54, 54, 54, 54, 54, 54, 54, 54, 54, 54, 54, 54, 54, 54, 54, 54, 54, 54, 54, 54, 54, 54, 54, 54, 54, 54, 54, 54, 54, 54, 54, 54, 54, 54, 54, 54, 54, 54, 54, 54, 54, 54, 54, 54, 54, 54, 54]) = ⟨572760347, 2086568772, 684708684, 1730675940, 1730586827, 1398833259, 2714205624, 4241599456⟩ := by
  unfold ShaM.pass
  rw [pb_u1_i_m0, pb_u1_i_s0]
  rfl
theorem pb_u1_i_m1 : ShaM.sched (ShaM.at' [115, 97, 108, 116, 0, 0, 0, 1, 128, 0, 0, 0, 0, 0, 0, 0, 0, 0, 0, 0, 0, 0, 0, 0, 0, 0, 0, 0, 0, 0, 0, 0, 0, 0, 0, 0, 0, 0, 0, 0, 0, 0, 0, 0, 0, 0, 0, 0, 0, 0, 0, 0, 0, 0, 0, 0, 0, 0, 0, 0, 0, 0, 2, 64]) = [1935764596, 1, 2147483648, 0, 0, 0, 0, 0, 0, 0, 0, 0, 0, 0, 0, 576, 1969335412, 308813825, 1672080503, 335819121, 3417159642, 2660477326, 1831131662, 389211365, 147182081, 2459292221, 1732691327, 522950214, 1486698632, 655417507, 3540378948, 40760097, 1587495462, 1532155459, 3104477526, 1605688302, 4059780931, 2419319208, 2734309855, 2048979399, 3943577916, 4125084399, 214527747, 2193550454, 4256752615, 1614275800, 4183321463, 2488442792, 3317075042, 2720496276, 3037215425, 4222250134, 664087104, 1088481632, 628118860, 2489085973, 3777509778, 3176526197, 1787183953, 3653559815, 1851953705, 1604445429, 2370286019, 3264467856] := by decide +kernel
theorem pb_u1_i_s1 : ShaM.steps [1935764596, 1, 2147483648, 0, 0, 0, 0, 0, 0, 0, 0, 0, 0, 0, 0, 576, 1969335412, 308813825, 1672080503, 335819121, 3417159642, 2660477326, 1831131662, 389211365, 147182081, 2459292221, 1732691327, 522950214, 1486698632, 655417507, 3540378948, 40760097, 1587495462, 1532155459, 3104477526, 1605688302, 4059780931, 2419319208, 2734309855, 2048979399, 3943577916, 4125084399, 214527747, 2193550454, 4256752615, 1614275800, 4183321463, 2488442792, 3317075042, 2720496276, 3037215425, 4222250134, 664087104, 1088481632, 628118860, 2489085973, 3777509778, 3176526197, 1787183953, 3653559815, 1851953705, 1604445429, 2370286019, 3264467856] 64 ⟨572760347, 2086568772, 684708684, 1730675940, 1730586827, 1398833259, 2714205624, 4241599456⟩ = ⟨296948315, 1977398677, 3938587059, 624912583, 1803520006, 1497293692, 249018346, 2585959054⟩ := by decide +kernel
theorem pb_u1_i_p1 : ShaM.pass ⟨572760347, 2086568772, 684708684, 1730675940, 1730586827, 1398833259, 2714205624, 4241599456⟩ (ShaM.at' [115, 97, 108, 116, 0, 0, 0, 1, 128, 0, 0, 0, 0, 0, 0, 0, 0, 0, 0, 0, 0, 0, 0, 0, 0, 0, 0, 0, 0, 0, 0, 0, 0, 0, 0, 0, 0, 0, 0, 0, 0, 0, 0, 0, 0, 0, 0, 0, 0, 0, 0, 0, 0, 0, 0, 0, 0, 0, 0, 0, 0, 0, 2, 64]) = ⟨869708662, 4063967449, 328328447, 2355588523, 3534106833, 2896126951, 2963223970, 2532591214⟩ := by
  unfold ShaM.pass
  rw [pb_u1_i_m1, pb_u1_i_s1]
  rfl
theorem pb_u1_i : ShaM.sum [70, 87, 69, 69, 65, 89, 68, 82, 54, 54, 54, 54, 54, 54, 54, 54, 54, 54, 54, 54, 54, 54, 54, 54, 54, 54, 54, 54, 54, 54, 54, 54, 54, 54, 54, 54, 54, 54, 54, 54, 54, 54, 54, 54, 54, 54, 54, 54, 54, 54, 54, 54, 54, 54, 54, 54, 54, 54, 54, 54, 54, 54, 54, 54, 115, 97, 108, 116, 0, 0, 0, 1] = ShaM.digest ⟨869708662, 4063967449, 328328447, 2355588523, 3534106833, 2896126951, 2963223970, 2532591214⟩ := by
  unfold ShaM.sum ShaM.ended
  have e : [70, 87, 69, 69, 65, 89, 68, 82, 54, 54, 54, 54, 54, 54, 54, 54, 54, 54, 54, 54, 54, 54, 54, 54, 54, 54, 54, 54, 54, 54, 54, 54, 54, 54, 54, 54, 54, 54, 54, 54, 54, 54, 54, 54, 54, 54, 54, 54, 54, 54, 54, 54, 54, 54, 54, 54, 54, 54, 54, 54, 54, 54, 54, 54, 115, 97, 108, 116, 0, 0, 0, 1] ++ ShaM.tail (0 + ([70, 87, 69, 69, 65, 89, 68, 82, 54, 54, 54, 54, 54, 54, 54, 54, 54, 54, 54, 54, 54, 54, 54, 54, 54, 54, 54, 54, 54, 54, 54, 54, 54, 54, 54, 54, 54, 54, 54, 54, 54, 54, 54, 54, 54, 54, 54, 54, 54, 54, 54, 54, 54, 54, 54, 54, 54, 54, 54, 54, 54, 54, 54, 54, 115, 97, 108, 116, 0, 0, 0, 1] : List Nat).length) = [70, 87, 69, 69, 65, 89, 68, 82, 54, 54, 54, 54, 54, 54, 54, 54, 54, 54, 54, 54, 54, 54, 54, 54, 54, 54, 54, 54, 54, 54, 54, 54, 54, 54, 54, 54, 54, 54, 54, 54, 54, 54, 54, 54, 54, 54, 54, 54, 54, 54, 54, 54, 54, 54, 54, 54, 54, 54, 54, 54, 54, 54, 54, 54] ++ ([115, 97, 108, 116, 0, 0, 0, 1, 128, 0, 0, 0, 0, 0, 0, 0, 0, 0, 0, 0, 0, 0, 0, 0, 0, 0, 0, 0, 0, 0, 0, 0, 0, 0, 0, 0, 0, 0, 0, 0, 0, 0, 0, 0, 0, 0, 0, 0, 0, 0, 0, 0, 0, 0, 0, 0, 0, 0, 0, 0, 0, 0, 2, 64] ++ []) := by decide +kernel
  rw [e]
  unfold ShaM.seeds
  rw [ShaM.passes_block rfl, pb_u1_i_p0]
  rw [ShaM.passes_block rfl, pb_u1_i_p1]
  rw [ShaM.passes_short (by decide)]
theorem pb_u1_o_m0 : ShaM.sched (ShaM.at' [44, 61, 47, 47, 43, 51, 46, 56, 92, 92, 92, 92, 92, 92, 92, 92, 92, 92, 92, 92, 92, 92, 92, 92, 92, 92, 92, 92, 92, 92, 92, 92, 92, 92, 92, 92, 92, 92, 92, 92, 92, 92, 92, 92, 92, 92, 92, 92, 92, 92, 92, 92, 92, 92, 92, 92, 92, 92, 92, 92, 92, 92, 92, 92]) = [742207279, 724774456, 1549556828, 1549556828, 1549556828, 1549556828, 1549556828, 1549556828, 1549556828, 1549556828, 1549556828, 1549556828, 1549556828, 1549556828, 1549556828, 1549556828, 3976873876, 3513147754, 3353380497, 1502169059, 2961702921, 3891823232, 1560717617, 1052006711, 1401988723, 1880349867, 2716659702, 1189434245, 3534160624, 1630198955, 2689053822, 2338586645, 3784011451, 240492389, 2247341142, 2919266941, 4223968265, 2112989457, 789317938, 3342833284, 2539870053, 4063146488, 1746484585, 217546622, 4150927783, 3840061965, 4141962669, 3802288419, 2652659, 698102525, 3065414174, 1780700749, 3104440143, 2595988021, 3336011873, 2029955827, 887926922, 3114823857, 3270409641, 3586944631, 793645230, 1993681752, 167966872, 1088627310] := by decide +kernel
theorem pb_u1_o_s0 : ShaM.steps [742207279, 724774456, 1549556828, 1549556828, 1549556828, 1549556828, 1549556828, 1549556828, 1549556828, 1549556828, 1549556828, 1549556828, 1549556828, 1549556828, 1549556828, 1549556828, 3976873876, 3513147754, 3353380497, 1502169059, 2961702921, 3891823232, 1560717617, 1052006711, 1401988723, 1880349867, 2716659702, 1189434245, 3534160624, 1630198955, 2689053822, 2338586645, 3784011451, 240492389, 2247341142, 2919266941, 4223968265, 2112989457, 789317938, 3342833284, 2539870053, 4063146488, 1746484585, 217546622, 4150927783, 3840061965, 4141962669, 3802288419, 2652659, 698102525, 3065414174, 1780700749, 3104440143, 2595988021, 3336011873, 2029955827, 887926922, 3114823857, 3270409641, 3586944631, 793645230, 1993681752, 167966872, 1088627310] 64 ⟨1779033703, 3144134277, 1013904242, 2773480762, 1359893119, 2600822924, 528734635, 1541459225⟩ = ⟨619944192, 2389232982, 4023886096, 2682320399, 1760622054, 3282681061, 559104577, 1122511185⟩ := by decide +kernel
theorem pb_u1_o_p0 : ShaM.pass ⟨1779033703, 3144134277, 1013904242, 2773480762, 1359893119, 2600822924, 528734635, 1541459225⟩ (ShaM.at' [44, 61, 47, 47, 43, 51, 46, 56, 92, 92, 92, 92, 92, 92, 92, 92, 92, 92, 92, 92, 92, 92, 92, 92, 92, 92, 92, 92, 92, 92, 92, 92, 92, 92, 92, 92, 92, 92, 92, 92, 92, 92, 92, 92, 92, 92, 92, 92, 92, 92, 92, 92, 92, 92, 92, 92, 92, 92, 92, 92, 92, 92, 92, 92]) = ⟨2398977895, 1238399963, 742823042, 1160833865, 3120515173, 1588536689, 1087839212, 2663970410⟩ := by
  unfold ShaM.pass
  rw [pb_u1_o_m0, pb_u1_o_s0]
  rfl
theorem pb_u1_o_m1 : ShaM.sched (ShaM.at' [51, 214, 179, 118, 242, 59, 56, 217, 19, 145, 228, 255, 140, 103, 109, 171, 210, 166, 48, 209, 172, 159, 99, 231, 176, 159, 53, 162, 150, 244, 70, 110, 128, 0, 0, 0, 0, 0, 0, 0, 0, 0, 0, 0, 0, 0, 0, 0, 0, 0, 0, 0, 0, 0, 0, 0, 0, 0, 0, 0, 0, 0, 3, 0]) = [869708662, 4063967449, 328328447, 2355588523, 3534106833, 2896126951, 2963223970, 2532591214, 2147483648, 0, 0, 0, 0, 0, 0, 768, 2540446042, 2038830219, 1177839561, 2331516659, 2481287474, 1463739139, 2778980720, 3981743752, 2252686120, 534947310, 2496192941, 2587010518, 3288673736, 2887447654, 562107063, 1517274381, 4281658581, 2889435518, 3190598723, 131111617, 3088055801, 3835453298, 726896671, 2718273689, 1664960219, 3395460891, 3209635475, 823740300, 2249771299, 2441692566, 567626493, 3610808346, 2420227621, 2171441867, 2088653231, 605412906, 454859818, 981868133, 591756214, 3931043051, 2154709631, 3840319977, 475481759, 917414957, 2058485331, 3895698230, 3631322438, 873482552] := by decide +kernel
theorem pb_u1_o_s1 : ShaM.steps [869708662, 4063967449, 328328447, 2355588523, 3534106833, 2896126951, 2963223970, 2532591214, 2147483648, 0, 0, 0, 0, 0, 0, 768, 2540446042, 2038830219, 1177839561, 2331516659, 2481287474, 1463739139, 2778980720, 3981743752, 2252686120, 534947310, 2496192941, 2587010518, 3288673736, 2887447654, 562107063, 1517274381, 4281658581, 2889435518, 3190598723, 131111617, 3088055801, 3835453298, 726896671, 2718273689, 1664960219, 3395460891, 3209635475, 823740300, 2249771299, 2441692566, 567626493, 3610808346, 2420227621, 2171441867, 2088653231, 605412906, 454859818, 981868133, 591756214, 3931043051, 2154709631, 3840319977, 475481759, 917414957, 2058485331, 3895698230, 3631322438, 873482552] 64 ⟨2398977895, 1238399963, 742823042, 1160833865, 3120515173, 1588536689, 1087839212, 2663970410⟩ = ⟨2199009128, 3005757265, 396398032, 294915310, 3999662180, 3458011095, 3341712528, 407038737⟩ := by decide +kernel
theorem pb_u1_o_p1 : ShaM.pass ⟨2398977895, 1238399963, 742823042, 1160833865, 3120515173, 1588536689, 1087839212, 2663970410⟩ (ShaM.at' [51, 214, 179, 118, 242, 59, 56, 217, 19, 145, 228, 255, 140, 103, 109, 171, 210, 166, 48, 209, 172, 159, 99, 231, 176, 159, 53, 162, 150, 244, 70, 110, 128, 0, 0, 0, 0, 0, 0, 0, 0, 0, 0, 0, 0, 0, 0, 0, 0, 0, 0, 0, 0, 0, 0, 0, 0, 0, 0, 0, 0, 0, 3, 0]) = ⟨303019727, 4244157228, 1139221074, 1455749175, 2825210057, 751580488, 134584444, 3071009147⟩ := by
  unfold ShaM.pass
  rw [pb_u1_o_m1, pb_u1_o_s1]
  rfl
theorem pb_u1_o : ShaM.sum [44, 61, 47, 47, 43, 51, 46, 56, 92, 92, 92, 92, 92, 92, 92, 92, 92, 92, 92, 92, 92, 92, 92, 92, 92, 92, 92, 92, 92, 92, 92, 92, 92, 92, 92, 92, 92, 92, 92, 92, 92, 92, 92, 92, 92, 92, 92, 92, 92, 92, 92, 92, 92, 92, 92, 92, 92, 92, 92, 92, 92, 92, 92, 92, 51, 214, 179, 118, 242, 59, 56, 217, 19, 145, 228, 255, 140, 103, 109, 171, 210, 166, 48, 209, 172, 159, 99, 231, 176, 159, 53, 162, 150, 244, 70, 110] = ShaM.digest ⟨303019727, 4244157228, 1139221074, 1455749175, 2825210057, 751580488, 134584444, 3071009147⟩ := by
  unfold ShaM.sum ShaM.ended
  have e : [44, 61, 47, 47, 43, 51, 46, 56, 92, 92, 92, 92, 92, 92, 92, 92, 92, 92, 92, 92, 92, 92, 92, 92, 92, 92, 92, 92, 92, 92, 92, 92, 92, 92, 92, 92, 92, 92, 92, 92, 92, 92, 92, 92, 92, 92, 92, 92, 92, 92, 92, 92, 92, 92, 92, 92, 92, 92, 92, 92, 92, 92, 92, 92, 51, 214, 179, 118, 242, 59, 56, 217, 19, 145, 228, 255, 140, 103, 109, 171, 210, 166, 48, 209, 172, 159, 99, 231, 176, 159, 53, 162, 150, 244, 70, 110] ++ ShaM.tail (0 + ([44, 61, 47, 47, 43, 51, 46, 56, 92, 92, 92, 92, 92, 92, 92, 92, 92, 92, 92, 92, 92, 92, 92, 92, 92, 92, 92, 92, 92, 92, 92, 92, 92, 92, 92, 92, 92, 92, 92, 92, 92, 92, 92, 92, 92, 92, 92, 92, 92, 92, 92, 92, 92, 92, 92, 92, 92, 92, 92, 92, 92, 92, 92, 92, 51, 214, 179, 118, 242, 59, 56, 217, 19, 145, 228, 255, 140, 103, 109, 171, 210, 166, 48, 209, 172, 159, 99, 231, 176, 159, 53, 162, 150, 244, 70, 110] : List Nat).length) = [44, 61, 47, 47, 43, 51, 46, 56, 92, 92, 92, 92, 92, 92, 92, 92, 92, 92, 92, 92, 92, 92, 92, 92, 92, 92, 92, 92, 92, 92, 92, 92, 92, 92, 92, 92, 92, 92, 92, 92, 92, 92, 92, 92, 92, 92, 92, 92, 92, 92, 92, 92, 92, 92, 92, 92, 92, 92, 92, 92, 92, 92, 92, 92] ++ ([51, 214, 179, 118, 242, 59, 56, 217, 19, 145, 228, 255, 140, 103, 109, 171, 210, 166, 48, 209, 172, 159, 99, 231, 176, 159, 53, 162, 150, 244, 70, 110, 128, 0, 0, 0, 0, 0, 0, 0, 0, 0, 0, 0, 0, 0, 0, 0, 0, 0, 0, 0, 0, 0, 0, 0, 0, 0, 0, 0, 0, 0, 3, 0] ++ []) := by decide +kernel
  rw [e]
  unfold ShaM.seeds
  rw [ShaM.passes_block rfl, pb_u1_o_p0]
  rw [ShaM.passes_block rfl, pb_u1_o_p1]
  rw [ShaM.passes_short (by decide)]
theorem pb_u1 : HmM.tag [112, 97, 115, 115, 119, 111, 114, 100] [115, 97, 108, 116, 0, 0, 0, 1] = ShaM.digest ⟨303019727, 4244157228, 1139221074, 1455749175, 2825210057, 751580488, 134584444, 3071009147⟩ := by
  unfold HmM.tag
  have e1 : HmM.pad 54 (HmM.blk [112, 97, 115, 115, 119, 111, 114, 100]) ++ [115, 97, 108, 116, 0, 0, 0, 1] = [70, 87, 69, 69, 65, 89, 68, 82, 54, 54, 54, 54, 54, 54, 54, 54, 54, 54, 54, 54, 54, 54, 54, 54, 54, 54, 54, 54, 54, 54, 54, 54, 54, 54, 54, 54, 54, 54, 54, 54, 54, 54, 54, 54, 54, 54, 54, 54, 54, 54, 54, 54, 54, 54, 54, 54, 54, 54, 54, 54, 54, 54, 54, 54, 115, 97, 108, 116, 0, 0, 0, 1] := by decide +kernel
  have e2 : HmM.pad 92 (HmM.blk [112, 97, 115, 115, 119, 111, 114, 100]) = [44, 61, 47, 47, 43, 51, 46, 56, 92, 92, 92, 92, 92, 92, 92, 92, 92, 92, 92, 92, 92, 92, 92, 92, 92, 92, 92, 92, 92, 92, 92, 92, 92, 92, 92, 92, 92, 92, 92, 92, 92, 92, 92, 92, 92, 92, 92, 92, 92, 92, 92, 92, 92, 92, 92, 92, 92, 92, 92, 92, 92, 92, 92, 92] := by decide +kernel
  have e3 : HmM.dl (ShaM.digest ⟨869708662, 4063967449, 328328447, 2355588523, 3534106833, 2896126951, 2963223970, 2532591214⟩) = [51, 214, 179, 118, 242, 59, 56, 217, 19, 145, 228, 255, 140, 103, 109, 171, 210, 166, 48, 209, 172, 159, 99, 231, 176, 159, 53, 162, 150, 244, 70, 110] := by decide +kernel
  have e4 : [44, 61, 47, 47, 43, 51, 46, 56, 92, 92, 92, 92, 92, 92, 92, 92, 92, 92, 92, 92, 92, 92, 92, 92, 92, 92, 92, 92, 92, 92, 92, 92, 92, 92, 92, 92, 92, 92, 92, 92, 92, 92, 92, 92, 92, 92, 92, 92, 92, 92, 92, 92, 92, 92, 92, 92, 92, 92, 92, 92, 92, 92, 92, 92] ++ [51, 214, 179, 118, 242, 59, 56, 217, 19, 145, 228, 255, 140, 103, 109, 171, 210, 166, 48, 209, 172, 159, 99, 231, 176, 159, 53, 162, 150, 244, 70, 110] = [44, 61, 47, 47, 43, 51, 46, 56, 92, 92, 92, 92, 92, 92, 92, 92, 92, 92, 92, 92, 92, 92, 92, 92, 92, 92, 92, 92, 92, 92, 92, 92, 92, 92, 92, 92, 92, 92, 92, 92, 92, 92, 92, 92, 92, 92, 92, 92, 92, 92, 92, 92, 92, 92, 92, 92, 92, 92, 92, 92, 92, 92, 92, 92, 51, 214, 179, 118, 242, 59, 56, 217, 19, 145, 228, 255, 140, 103, 109, 171, 210, 166, 48, 209, 172, 159, 99, 231, 176, 159, 53, 162, 150, 244, 70, 110] := by decide +kernel
  rw [e1, pb_u1_i, e2, e3, e4, pb_u1_o]
theorem pb_u2_i_m0 : ShaM.sched (ShaM.at' [70, 87, 69, 69, 65, 89, 68, 82, 54, 54, 54, 54, 54, 54, 54, 54, 54, 54, 54, 54, 54, 54, 54, 54, 54, 54, 54, 54, 54, 54, 54, 54, 54, 54, 54, 54, 54, 54, 54, 54, 54, 54, 54, 54, 54, 54, 54, 54, 54, 54, 54, 54, 54, 54, 54, 54, 54, 54, 54, 54, 54, 54, 54, 54]) = [1180124485, 1096369234, 909522486, 909522486, 909522486, 909522486, 909522486, 909522486, 909522486, 909522486, 909522486, 909522486, 909522486, 909522486, 909522486, 909522486, 1478153759, 1015476735, 2238567758, 4200786946, 2747489537, 2136165977, 412854497, 1148221452, 4216248592, 3588352339, 3478452951, 2329387668, 2125690676, 1530095639, 925954491, 2329498324, 3665431985, 2279804817, 4183156627, 531690734, 3162451092, 1183540370, 628281629, 2257635149, 2098814660, 3546836491, 1150705887, 1026371726, 3246008357, 199654859, 4225988969, 4108882395, 1906408484, 1755453605, 2868965236, 643400618, 677156659, 3200030303, 2916983227, 2732970304, 1623618925, 4281764824, 3069150634, 3554096810, 3130930826, 1246412041, 159790684, 2026149663] := by decide +kernel
theorem pb_u2_i_s0 : ShaM.steps [1180124485, 1096369234, 909522486, 909522486, 909522486, 909522486, 909522486, 909522486, 909522486, 909522486, 909522486, 909522486, 909522486, 909522486, 909522486, 909522486, 1478153759, 1015476735, 2238567758, 4200786946, 2747489537, 2136165977, 412854497, 1148221452, 4216248592, 3588352339, 3478452951, 2329387668, 2125690676, 1530095639, 925954491, 2329498324, 3665431985, 2279804817, 4183156627, 531690734, 3162451092, 1183540370, 628281629, 2257635149, 2098814660, 3546836491, 1150705887, 1026371726, 3246008357, 199654859, 4225988969, 4108882395, 1906408484, 1755453605, 2868965236, 643400618, 677156659, 3200030303, 2916983227, 2732970304, 1623618925, 4281764824, 3069150634, 3554096810, 3130930826, 1246412041, 159790684, 2026149663] 64 ⟨1779033703, 3144134277, 1013904242, 2773480762, 1359893119, 2600822924, 528734635, 1541459225⟩ = ⟨3088693940, 3237401791, 3965771738, 3252162474, 370693708, 3092977631, 2185470989, 2700140231⟩ := by decide +kernel
theorem pb_u2_i_p0 : ShaM.pass ⟨1779033703, 3144134277, 1013904242, 2773480762, 1359893119, 2600822924, 528734635, 1541459225⟩ (ShaM.at' [70, 87, 69, 69, 65, 89, 68, 82, 54, 54, 54, 54, 54, 54, 54, 54, 54, 54, 54, 54, 54, 54, 54, 54, 54, 54, 54, 54, 54, 54, 54, 54, 54, 54, 54, 54, 54, 54, 54, 54, 54, 54, 54, 54, 54, 54, 54, 54, 54, 54, 54, 54, 54, 54, 54, 54, 54, 54, 54, 54, 54, 54, 54, 54]) = ⟨572760347, 2086568772, 684708684, 1730675940, 1730586827, 1398833259, 2714205624, 4241599456⟩ := by
  unfold ShaM.pass
  rw [pb_u2_i_m0, pb_u2_i_s0]
  rfl
theorem pb_u2_i_m1 : ShaM.sched (ShaM.at' [18, 15, 182, 207, 252, 248, 179, 44, 67, 231, 34, 82, 86, 196, 248, 55, 168, 101, 72, 201, 44, 204, 53, 72, 8, 5, 152, 124, 183, 11, 225, 123, 128, 0, 0, 0, 0, 0, 0, 0, 0, 0, 0, 0, 0, 0, 0, 0, 0, 0, 0, 0, 0, 0, 0, 0, 0, 0, 0, 0, 0, 0, 3, 0]) = [303019727, 4244157228, 1139221074, 1455749175, 2825210057, 751580488, 134584444, 3071009147, 2147483648, 0, 0, 0, 0, 0, 0, 768, 2092797708, 1665691171, 349733955, 1711280542, 2477014415, 3603001162, 3140088916, 3745714794, 2815848111, 2648272, 1621877800, 3440789402, 1699382787, 2788650764, 4091256701, 1993511301, 2323312407, 2223396888, 1084625462, 3030988297, 3654322405, 1267472635, 2451635586, 3377248815, 1206106099, 2970418446, 2152310090, 869579445, 1833716724, 77393779, 169798768, 782981632, 2665240238, 2872300547, 1587417618, 2773595264, 2745337149, 1789203101, 990830824, 2529174152, 3548352364, 288817345, 2663053523, 797061673, 3633042908, 4182902249, 72030967, 2683311677] := by decide +kernel
theorem pb_u2_i_s1 : ShaM.steps [303019727, 4244157228, 1139221074, 1455749175, 2825210057, 751580488, 134584444, 3071009147, 2147483648, 0, 0, 0, 0, 0, 0, 768, 2092797708, 1665691171, 349733955, 1711280542, 2477014415, 3603001162, 3140088916, 3745714794, 2815848111, 2648272, 1621877800, 3440789402, 1699382787, 2788650764, 4091256701, 1993511301, 2323312407, 2223396888, 1084625462, 3030988297, 3654322405, 1267472635, 2451635586, 3377248815, 1206106099, 2970418446, 2152310090, 869579445, 1833716724, 77393779, 169798768, 782981632, 2665240238, 2872300547, 1587417618, 2773595264, 2745337149, 1789203101, 990830824, 2529174152, 3548352364, 288817345, 2663053523, 797061673, 3633042908, 4182902249, 72030967, 2683311677] 64 ⟨572760347, 2086568772, 684708684, 1730675940, 1730586827, 1398833259, 2714205624, 4241599456⟩ = ⟨2465815072, 2384829830, 161392637, 642890042, 2614717286, 2484957564, 3601813336, 2639981056⟩ := by decide +kernel
theorem pb_u2_i_p1 : ShaM.pass ⟨572760347, 2086568772, 684708684, 1730675940, 1730586827, 1398833259, 2714205624, 4241599456⟩ (ShaM.at' [18, 15, 182, 207, 252, 248, 179, 44, 67, 231, 34, 82, 86, 196, 248, 55, 168, 101, 72, 201, 44, 204, 53, 72, 8, 5, 152, 124, 183, 11, 225, 123, 128, 0, 0, 0, 0, 0, 0, 0, 0, 0, 0, 0, 0, 0, 0, 0, 0, 0, 0, 0, 0, 0, 0, 0, 0, 0, 0, 0, 0, 0, 3, 0]) = ⟨3038575419, 176431306, 846101321, 2373565982, 50336817, 3883790823, 2021051664, 2586613216⟩ := by
  unfold ShaM.pass
  rw [pb_u2_i_m1, pb_u2_i_s1]
  rfl
theorem pb_u2_i : ShaM.sum [70, 87, 69, 69, 65, 89, 68, 82, 54, 54, 54, 54, 54, 54, 54, 54, 54, 54, 54, 54, 54, 54, 54, 54, 54, 54, 54, 54, 54, 54, 54, 54, 54, 54, 54, 54, 54, 54, 54, 54, 54, 54, 54, 54, 54, 54, 54, 54, 54, 54, 54, 54, 54, 54, 54, 54, 54, 54, 54, 54, 54, 54, 54, 54, 18, 15, 182, 207, 252, 248, 179, 44, 67, 231, 34, 82, 86, 196, 248, 55, 168, 101, 72, 201, 44, 204, 53, 72, 8, 5, 152, 124, 183, 11, 225, 123] = ShaM.digest ⟨3038575419, 176431306, 846101321, 2373565982, 50336817, 3883790823, 2021051664, 2586613216⟩ := by
  unfold ShaM.sum ShaM.ended
  have e : [70, 87, 69, 69, 65, 89, 68, 82, 54, 54, 54, 54, 54, 54, 54, 54, 54, 54, 54, 54, 54, 54, 54, 54, 54, 54, 54, 54, 54, 54, 54, 54, 54, 54, 54, 54, 54, 54, 54, 54, 54, 54, 54, 54, 54, 54, 54, 54, 54, 54, 54, 54, 54, 54, 54, 54, 54, 54, 54, 54, 54, 54, 54, 54, 18, 15, 182, 207, 252, 248, 179, 44, 67, 231, 34, 82, 86, 196, 248, 55, 168, 101, 72, 201, 44, 204, 53, 72, 8, 5, 152, 124, 183, 11, 225, 123] ++ ShaM.tail (0 + ([70, 87, 69, 69, 65, 89, 68, 82, 54, 54, 54, 54, 54, 54, 54, 54, 54, 54, 54, 54, 54, 54, 54, 54, 54, 54, 54, 54, 54, 54, 54, 54, 54, 54, 54, 54, 54, 54, 54, 54, 54, 54, 54, 54, 54, 54, 54, 54, 54, 54, 54, 54, 54, 54, 54, 54, 54, 54, 54, 54, 54, 54, 54, 54, 18, 15, 182, 207, 252, 248, 179, 44, 67, 231, 34, 82, 86, 196, 248, 55, 168, 101, 72, 201, 44, 204, 53, 72, 8, 5, 152, 124, 183, 11, 225, 123] : List Nat).length) = [70, 87, 69, 69, 65, 89, 68, 82, 54, 54, 54, 54, 54, 54, 54, 54, 54, 54, 54, 54, 54, 54, 54, 54, 54, 54, 54, 54, 54, 54, 54, 54, 54, 54, 54, 54, 54, 54, 54, 54, 54, 54, 54, 54, 54, 54, 54, 54, 54, 54, 54, 54, 54, 54, 54, 54, 54, 54, 54, 54, 54, 54, 54, 54] ++ ([18, 15, 182, 207, 252, 248, 179, 44, 67, 231, 34, 82, 86, 196, 248, 55, 168, 101, 72, 201, 44, 204, 53, 72, 8, 5, 152, 124, 183, 11, 225, 123, 128, 0, 0, 0, 0, 0, 0, 0, 0, 0, 0, 0, 0, 0, 0, 0, 0, 0, 0, 0, 0, 0, 0, 0, 0, 0, 0, 0, 0, 0, 3, 0] ++ []) := by decide +kernel
  rw [e]
  unfold ShaM.seeds
  rw [ShaM.passes_block rfl, pb_u2_i_p0]
  rw [ShaM.passes_block rfl, pb_u2_i_p1]
  rw [ShaM.passes_short (by decide)]
theorem pb_u2_o_m0 : ShaM.sched (ShaM.at' [44, 61, 47, 47, 43, 51, 46, 56, 92, 92, 92, 92, 92, 92, 92, 92, 92, 92, 92, 92, 92, 92, 92, 92, 92, 92, 92, 92, 92, 92, 92, 92, 92, 92, 92, 92, 92, 92, 92, 92, 92, 92, 92, 92, 92, 92, 92, 92, 92, 92, 92, 92, 92, 92, 92, 92, 92, 92, 92, 92, 92, 92, 92, 92]) = [742207279, 724774456, 1549556828, 1549556828, 1549556828, 1549556828, 1549556828, 1549556828, 1549556828, 1549556828, 1549556828, 1549556828, 1549556828, 1549556828, 1549556828, 1549556828, 3976873876, 3513147754, 3353380497, 1502169059, 2961702921, 3891823232, 1560717617, 1052006711, 1401988723, 1880349867, 2716659702, 1189434245, 3534160624, 1630198955, 2689053822, 2338586645, 3784011451, 240492389, 2247341142, 2919266941, 4223968265, 2112989457, 789317938, 3342833284, 2539870053, 4063146488, 1746484585, 217546622, 4150927783, 3840061965, 4141962669, 3802288419, 2652659, 698102525, 3065414174, 1780700749, 3104440143, 2595988021, 3336011873, 2029955827, 887926922, 3114823857, 3270409641, 3586944631, 793645230, 1993681752, 167966872, 1088627310] := by decide +kernel
theorem pb_u2_o_s0 : ShaM.steps [742207279, 724774456, 1549556828, 1549556828, 1549556828, 1549556828, 1549556828, 1549556828, 1549556828, 1549556828, 1549556828, 1549556828, 1549556828, 1549556828, 1549556828, 1549556828, 3976873876, 3513147754, 3353380497, 1502169059, 2961702921, 3891823232, 1560717617, 1052006711, 1401988723, 1880349867, 2716659702, 1189434245, 3534160624, 1630198955, 2689053822, 2338586645, 3784011451, 240492389, 2247341142, 2919266941, 4223968265, 2112989457, 789317938, 3342833284, 2539870053, 4063146488, 1746484585, 217546622, 4150927783, 3840061965, 4141962669, 3802288419, 2652659, 698102525, 3065414174, 1780700749, 3104440143, 2595988021, 3336011873, 2029955827, 887926922, 3114823857, 3270409641, 3586944631, 793645230, 1993681752, 167966872, 1088627310] 64 ⟨1779033703, 3144134277, 1013904242, 2773480762, 1359893119, 2600822924, 528734635, 1541459225⟩ = ⟨619944192, 2389232982, 4023886096, 2682320399, 1760622054, 3282681061, 559104577, 1122511185⟩ := by decide +kernel
theorem pb_u2_o_p0 : ShaM.pass ⟨1779033703, 3144134277, 1013904242, 2773480762, 1359893119, 2600822924, 528734635, 1541459225⟩ (ShaM.at' [44, 61, 47, 47, 43, 51, 46, 56, 92, 92, 92, 92, 92, 92, 92, 92, 92, 92, 92, 92, 92, 92, 92, 92, 92, 92, 92, 92, 92, 92, 92, 92, 92, 92, 92, 92, 92, 92, 92, 92, 92, 92, 92, 92, 92, 92, 92, 92, 92, 92, 92, 92, 92, 92, 92, 92, 92, 92, 92, 92, 92, 92, 92, 92]) = ⟨2398977895, 1238399963, 742823042, 1160833865, 3120515173, 1588536689, 1087839212, 2663970410⟩ := by
  unfold ShaM.pass
  rw [pb_u2_o_m0, pb_u2_o_s0]
  rfl
theorem pb_u2_o_m1 : ShaM.sched (ShaM.at' [181, 28, 251, 59, 10, 132, 32, 202, 50, 110, 123, 73, 141, 121, 190, 30, 3, 0, 20, 49, 231, 125, 241, 231, 120, 118, 205, 16, 154, 44, 149, 224, 128, 0, 0, 0, 0, 0, 0, 0, 0, 0, 0, 0, 0, 0, 0, 0, 0, 0, 0, 0, 0, 0, 0, 0, 0, 0, 0, 0, 0, 0, 3, 0]) = [3038575419, 176431306, 846101321, 2373565982, 50336817, 3883790823, 2021051664, 2586613216, 2147483648, 0, 0, 0, 0, 0, 0, 768, 1385433652, 392134606, 4192790852, 1157570343, 470641188, 4036923699, 2278706185, 2554618380, 117671758, 3075127158, 4165870247, 696633861, 3319243225, 3826949257, 3186299435, 2238386286, 915761671, 2791923153, 3181205744, 2709712705, 3845081083, 1776399509, 1798587630, 953820123, 2931263838, 2731639910, 1298348556, 1150512480, 3531042287, 2930264722, 1543494187, 2995883152, 3500324990, 2360885790, 970494353, 3623577158, 966201347, 1716214132, 3245452741, 468074279, 3605007273, 2496749412, 1026974802, 557343235, 1503383156, 1487308040, 1792809102, 1699695990] := by decide +kernel
theorem pb_u2_o_s1 : ShaM.steps [3038575419, 176431306, 846101321, 2373565982, 50336817, 3883790823, 2021051664, 2586613216, 2147483648, 0, 0, 0, 0, 0, 0, 768, 1385433652, 392134606, 4192790852, 1157570343, 470641188, 4036923699, 2278706185, 2554618380, 117671758, 3075127158, 4165870247, 696633861, 3319243225, 3826949257, 3186299435, 2238386286, 915761671, 2791923153, 3181205744, 2709712705, 3845081083, 1776399509, 1798587630, 953820123, 2931263838, 2731639910, 1298348556, 1150512480, 3531042287, 2930264722, 1543494187, 2995883152, 3500324990, 2360885790, 970494353, 3623577158, 966201347, 1716214132, 3245452741, 468074279, 3605007273, 2496749412, 1026974802, 557343235, 1503383156, 1487308040, 1792809102, 1699695990] 64 ⟨2398977895, 1238399963, 742823042, 1160833865, 3120515173, 1588536689, 1087839212, 2663970410⟩ = ⟨759511795, 163805732, 1118267689, 956541598, 3361091298, 2153725734, 2651857978, 2206447310⟩ := by decide +kernel
theorem pb_u2_o_p1 : ShaM.pass ⟨2398977895, 1238399963, 742823042, 1160833865, 3120515173, 1588536689, 1087839212, 2663970410⟩ (ShaM.at' [181, 28, 251, 59, 10, 132, 32, 202, 50, 110, 123, 73, 141, 121, 190, 30, 3, 0, 20, 49, 231, 125, 241, 231, 120, 118, 205, 16, 154, 44, 149, 224, 128, 0, 0, 0, 0, 0, 0, 0, 0, 0, 0, 0, 0, 0, 0, 0, 0, 0, 0, 0, 0, 0, 0, 0, 0, 0, 0, 0, 0, 0, 3, 0]) = ⟨3158489690, 1402205695, 1861090731, 2117375463, 2186639175, 3742262423, 3739697190, 575450424⟩ := by
  unfold ShaM.pass
  rw [pb_u2_o_m1, pb_u2_o_s1]
  rfl
theorem pb_u2_o : ShaM.sum [44, 61, 47, 47, 43, 51, 46, 56, 92, 92, 92, 92, 92, 92, 92, 92, 92, 92, 92, 92, 92, 92, 92, 92, 92, 92, 92, 92, 92, 92, 92, 92, 92, 92, 92, 92, 92, 92, 92, 92, 92, 92, 92, 92, 92, 92, 92, 92, 92, 92, 92, 92, 92, 92, 92, 92, 92, 92, 92, 92, 92, 92, 92, 92, 181, 28, 251, 59, 10, 132, 32, 202, 50, 110, 123, 73, 141, 121, 190, 30, 3, 0, 20, 49, 231, 125, 241, 231, 120, 118, 205, 16, 154, 44, 149, 224] = ShaM.digest ⟨3158489690, 1402205695, 1861090731, 2117375463, 2186639175, 3742262423, 3739697190, 575450424⟩ := by
  unfold ShaM.sum ShaM.ended
  have e : [44, 61, 47, 47, 43, 51, 46, 56, 92, 92, 92, 92, 92, 92, 92, 92, 92, 92, 92, 92, 92, 92, 92, 92, 92, 92, 92, 92, 92, 92, 92, 92, 92, 92, 92, 92, 92, 92, 92, 92, 92, 92, 92, 92, 92, 92, 92, 92, 92, 92, 92, 92, 92, 92, 92, 92, 92, 92, 92, 92, 92, 92, 92, 92, 181, 28, 251, 59, 10, 132, 32, 202, 50, 110, 123, 73, 141, 121, 190, 30, 3, 0, 20, 49, 231, 125, 241, 231, 120, 118, 205, 16, 154, 44, 149, 224] ++ ShaM.tail (0 + ([44, 61, 47, 47, 43, 51, 46, 56, 92, 92, 92, 92, 92, 92, 92, 92, 92, 92, 92, 92, 92, 92, 92, 92, 92, 92, 92, 92, 92, 92, 92, 92, 92, 92, 92, 92, 92, 92, 92, 92, 92, 92, 92, 92, 92, 92, 92, 92, 92, 92, 92, 92, 92, 92, 92, 92, 92, 92, 92, 92, 92, 92, 92, 92, 181, 28, 251, 59, 10, 132, 32, 202, 50, 110, 123, 73, 141, 121, 190, 30, 3, 0, 20, 49, 231, 125, 241, 231, 120, 118, 205, 16, 154, 44, 149, 224] : List Nat).length) = [44, 61, 47, 47, 43, 51, 46, 56, 92, 92, 92, 92, 92, 92, 92, 92, 92, 92, 92, 92, 92, 92, 92, 92, 92, 92, 92, 92, 92, 92, 92, 92, 92, 92, 92, 92, 92, 92, 92, 92, 92, 92, 92, 92, 92, 92, 92, 92, 92, 92, 92, 92, 92, 92, 92, 92, 92, 92, 92, 92, 92, 92, 92, 92] ++ ([181, 28, 251, 59, 10, 132, 32, 202, 50, 110, 123, 73, 141, 121, 190, 30, 3, 0, 20, 49, 231, 125, 241, 231, 120, 118, 205, 16, 154, 44, 149, 224, 128, 0, 0, 0, 0, 0, 0, 0, 0, 0, 0, 0, 0, 0, 0, 0, 0, 0, 0, 0, 0, 0, 0, 0, 0, 0, 0, 0, 0, 0, 3, 0] ++ []) := by decide +kernel
  rw [e]
  unfold ShaM.seeds
  rw [ShaM.passes_block rfl, pb_u2_o_p0]
  rw [ShaM.passes_block rfl, pb_u2_o_p1]
  rw [ShaM.passes_short (by decide)]
theorem pb_u2 : HmM.tag [112, 97, 115, 115, 119, 111, 114, 100] [18, 15, 182, 207, 252, 248, 179, 44, 67, 231, 34, 82, 86, 196, 248, 55, 168, 101, 72, 201, 44, 204, 53, 72, 8, 5, 152, 124, 183, 11, 225, 123] = ShaM.digest ⟨3158489690, 1402205695, 1861090731, 2117375463, 2186639175, 3742262423, 3739697190, 575450424⟩ := by
  unfold HmM.tag
  have e1 : HmM.pad 54 (HmM.blk [112, 97, 115, 115, 119, 111, 114, 100]) ++ [18, 15, 182, 207, 252, 248, 179, 44, 67, 231, 34, 82, 86, 196, 248, 55, 168, 101, 72, 201, 44, 204, 53, 72, 8, 5, 152, 124, 183, 11, 225, 123] = [70, 87, 69, 69, 65, 89, 68, 82, 54, 54, 54, 54, 54, 54, 54, 54, 54, 54, 54, 54, 54, 54, 54, 54, 54, 54, 54, 54, 54, 54, 54, 54, 54, 54, 54, 54, 54, 54, 54, 54, 54, 54, 54, 54, 54, 54, 54, 54, 54, 54, 54, 54, 54, 54, 54, 54, 54, 54, 54, 54, 54, 54, 54, 54, 18, 15, 182, 207, 252, 248, 179, 44, 67, 231, 34, 82, 86, 196, 248, 55, 168, 101, 72, 201, 44, 204, 53, 72, 8, 5, 152, 124, 183, 11, 225, 123] := by decide +kernel
  have e2 : HmM.pad 92 (HmM.blk [112, 97, 115, 115, 119, 111, 114, 100]) = [44, 61, 47, 47, 43, 51, 46, 56, 92, 92, 92, 92, 92, 92, 92, 92, 92, 92, 92, 92, 92, 92, 92, 92, 92, 92, 92, 92, 92, 92, 92, 92, 92, 92, 92, 92, 92, 92, 92, 92, 92, 92, 92, 92, 92, 92, 92, 92, 92, 92, 92, 92, 92, 92, 92, 92, 92, 92, 92, 92, 92, 92, 92, 92] := by decide +kernel
  have e3 : HmM.dl (ShaM.digest ⟨3038575419, 176431306, 846101321, 2373565982, 50336817, 3883790823, 2021051664, 2586613216⟩) = [181, 28, 251, 59, 10, 132, 32, 202, 50, 110, 123, 73, 141, 121, 190, 30, 3, 0, 20, 49, 231, 125, 241, 231, 120, 118, 205, 16, 154, 44, 149, 224] := by decide +kernel
  have e4 : [44, 61, 47, 47, 43, 51, 46, 56, 92, 92, 92, 92, 92, 92, 92, 92, 92, 92, 92, 92, 92, 92, 92, 92, 92, 92, 92, 92, 92, 92, 92, 92, 92, 92, 92, 92, 92, 92, 92, 92, 92, 92, 92, 92, 92, 92, 92, 92, 92, 92, 92, 92, 92, 92, 92, 92, 92, 92, 92, 92, 92, 92, 92, 92] ++ [181, 28, 251, 59, 10, 132, 32, 202, 50, 110, 123, 73, 141, 121, 190, 30, 3, 0, 20, 49, 231, 125, 241, 231, 120, 118, 205, 16, 154, 44, 149, 224] = [44, 61, 47, 47, 43, 51, 46, 56, 92, 92, 92, 92, 92, 92, 92, 92, 92, 92, 92, 92, 92, 92, 92, 92, 92, 92, 92, 92, 92, 92, 92, 92, 92, 92, 92, 92, 92, 92, 92, 92, 92, 92, 92, 92, 92, 92, 92, 92, 92, 92, 92, 92, 92, 92, 92, 92, 92, 92, 92, 92, 92, 92, 92, 92, 181, 28, 251, 59, 10, 132, 32, 202, 50, 110, 123, 73, 141, 121, 190, 30, 3, 0, 20, 49, 231, 125, 241, 231, 120, 118, 205, 16, 154, 44, 149, 224] := by decide +kernel
  rw [e1, pb_u2_i, e2, e3, e4, pb_u2_o]
end Go.Proofs.YtnnhnlabkbjacaaDoor
namespace Go.Proofs.YtnnhnlabkbjacaaDoor
open Go.ChangeShapes Go.WideShapes Go.ChangeAt Go.RowKit
attribute [local go_sem] Gives
def pwL : List Nat := [112, 97, 115, 115, 119, 111, 114, 100]
def saltL : List Nat := [115, 97, 108, 116]
theorem pwL_256 : B256 pwL := by unfold B256 pwL; decide
theorem saltL_256 : B256 saltL := by unfold B256 saltL; decide
def oneB : ByteArray := ⟨#[18, 15, 182, 207, 252, 248, 179, 44, 67, 231, 34, 82, 86, 196, 248, 55, 168, 101, 72, 201, 44, 204, 53, 72, 8, 5, 152, 124, 183, 11, 225, 123]⟩
def twoB : ByteArray := ⟨#[174, 77, 12, 149, 175, 107, 70, 211, 45, 10, 223, 249, 40, 240, 109, 208, 42, 48, 63, 142, 243, 194, 81, 223, 214, 226, 216, 90, 149, 71, 76, 67]⟩
theorem u1_list : HmM.dl (HmM.tag pwL (saltL ++ [0, 0, 0, 1])) = nats oneB := by
  rw [show saltL ++ [0, 0, 0, 1] = [115, 97, 108, 116, 0, 0, 0, 1] from rfl]
  unfold pwL
  rw [pb_u1]; decide +kernel
theorem key_one : str (PbM.key pwL saltL 1 32) = oneB := by
  rw [PbM.key_32]
  rw [show PbM.bl pwL saltL 1 1 = HmM.tag pwL (saltL ++ [0, 0, 0, 1]) from rfl, u1_list, str_nats]
theorem u2_list : HmM.dl (HmM.tag pwL (nats oneB)) = [188, 66, 186, 90, 83, 147, 245, 255, 110, 237, 253, 171, 126, 52, 149, 231, 130, 85, 119, 71, 223, 14, 100, 151, 222, 231, 64, 38, 34, 76, 173, 56] := by
  rw [show nats oneB = [18, 15, 182, 207, 252, 248, 179, 44, 67, 231, 34, 82, 86, 196, 248, 55, 168, 101, 72, 201, 44, 204, 53, 72, 8, 5, 152, 124, 183, 11, 225, 123] from rfl]
  unfold pwL
  rw [pb_u2]; decide +kernel
theorem dl_xor (F G : Nat → Nat) : HmM.dl (fun k => F k ^^^ G k) = List.zipWith (· ^^^ ·) (HmM.dl F) (HmM.dl G) := by
  unfold HmM.dl
  rw [List.zipWith_map, List.zipWith_self]
theorem key_two : str (PbM.key pwL saltL 2 32) = twoB := by
  rw [PbM.key_32]
  rw [show PbM.bl pwL saltL 2 1 = fun k => HmM.tag pwL (saltL ++ [0, 0, 0, 1]) k ^^^ HmM.tag pwL (HmM.dl (HmM.tag pwL (saltL ++ [0, 0, 0, 1]))) k from rfl, dl_xor, u1_list, u2_list]
  decide +kernel
theorem key_five : str (PbM.key pwL saltL 1 5) = ⟨#[18, 15, 182, 207, 252]⟩ := by
  rw [← PbM.key_take pwL saltL 1 (n := 32) (m := 5) (by omega), PbM.key_32]
  rw [show PbM.bl pwL saltL 1 1 = HmM.tag pwL (saltL ++ [0, 0, 0, 1]) from rfl, u1_list]
  decide +kernel
theorem one_any (w : World) : Calls Tryd.prog 17 #[] w fun e w' => e = .returned (.string oneB) ∧ w = w' := by
  go_enter Tryd.func17, Tryd.ntmps17
  go_wp2_with fail
  go_ret
  exact ⟨rfl, rfl⟩
theorem pw_arg {w : World} {g : Nat} {t : TypeId} {fr : Nat × Nat} (h : w.heap[g]? = some (.cells #[.int .u8 112, .int .u8 97, .int .u8 115, .int .u8 115, .int .u8 119, .int .u8 111, .int .u8 114, .int .u8 100] t fr)) (hg : g < w.heap.size) : Arg w (some ⟨g, 0, none⟩) pwL 8 8 where
  len := rfl
  cap := Nat.le_refl _
  max := by unfold maxLen; omega
  b256 := pwL_256
  none e := by cases e
  byt := byt_lit h hg (lit_ok (by rfl))
theorem salt_arg {w : World} {g : Nat} {t : TypeId} {fr : Nat × Nat} (h : w.heap[g]? = some (.cells #[.int .u8 115, .int .u8 97, .int .u8 108, .int .u8 116] t fr)) (hg : g < w.heap.size) : Arg w (some ⟨g, 0, none⟩) saltL 4 4 where
  len := rfl
  cap := Nat.le_refl _
  max := by unfold maxLen; omega
  b256 := saltL_256
  none e := by cases e
  byt := byt_lit h hg (lit_ok (by rfl))
set_option maxHeartbeats 400000 in
set_option maxRecDepth 100000 in
theorem is_any (rounds size : Nat) (hr : 1 ≤ rounds) (hr2 : rounds ≤ 4096) (hs : 1 ≤ size) (hs2 : size ≤ 128) (want : ByteArray) (hw : str (PbM.key pwL saltL rounds size) = want) (w : World) (hS : Salts w) :
    Calls Tryd.prog 15 #[.int .i64 rounds, .int .i64 size, .string want] w fun e w' => e = .returned (.bool true) ∧ Below w.heap.size w w' := by
  have SA := hid hS
  have HW := hid hw
  clear hS hw
  have kc := fun (w : World) (C : Array Value) (n c : Nat) => Lib.run_convert_bytes_const (P := Tryd.prog) w 22 5 C n c Tryd.underlying22 Tryd.underlying5
  go_enter Tryd.func15, Tryd.ntmps15
  go_wp2_with fail
  generalize hw3 : World.alloc w _ = w3
  have hz3 : w.heap.size + 1 = w3.heap.size := by rw [← hw3]; simp
  have k3 : Arg w3 (some ⟨w.heap.size, 0, none⟩) pwL 8 8 := by rw [← hw3]; exact pw_arg (heap_alloc_new w _) (by simp)
  have b3 : Below w.heap.size w w3 := by rw [← hw3]; exact (Below.refl _ _).alloc (Nat.le_refl _) _
  clear hw3
  rw [hz3, kc]
  clear hz3 kc
  simp only [Result.andThen]
  rw [Oper.upon_value]
  generalize hw4 : World.alloc w3 _ = w4
  have k4 : Arg w4 (some ⟨w3.heap.size, 0, none⟩) saltL 4 4 := by rw [← hw4]; exact salt_arg (heap_alloc_new w3 _) (by simp)
  have b34 : Below w3.heap.size w3 w4 := by rw [← hw4]; exact (Below.refl _ _).alloc (Nat.le_refl _) _
  have K3 := hid (k3.on b34)
  have K4 := hid k4
  have B4 := hid (b3.trans (b34.mono b3.size))
  clear hw4 k3 k4 b3 b34
  go_wp2_with fail
  refine (pkey_any _ pwL 8 8 _ saltL 4 4 rounds size (by omega) (by omega) hr hr2 hs hs2 w4 K3.out K4.out (SA.out.on B4.out)).mono ?_
  rintro e w5 ⟨v5, rfl, o5, h5⟩
  obtain ⟨A5, c5, e5, a5⟩ := o5.arg (PbM.key_256 _ _ _ _)
  subst e5
  have s5 := a5.str
  rw [HW.out] at s5
  have B5 := hid (B4.out.trans (h5.mono B4.out.size))
  clear o5 h5 a5 K3 K4 B4
  generalize (PbM.key pwL saltL rounds size).length = m5 at *
  go_wp2_with fail
  go_ret
  exact ⟨rfl, B5.out⟩
set_option maxHeartbeats 400000 in
set_option maxRecDepth 100000 in
theorem no_any (rounds size : Int) (h : rounds < 1 ∨ 4096 < rounds ∨ size < 1 ∨ 128 < size) (w : World) :
    Calls Tryd.prog 18 #[.int .i64 rounds, .int .i64 size] w fun e w' => e = .returned (.bool true) ∧ Below w.heap.size w w' := by
  have HB := hid fun w' => pkey_bad (some ⟨w.heap.size, 0, none⟩) 8 8 (some ⟨w.heap.size + 1, 0, none⟩) 4 4 rounds size h w'
  clear h
  have kc := fun (w : World) (C : Array Value) (n c : Nat) => Lib.run_convert_bytes_const (P := Tryd.prog) w 22 5 C n c Tryd.underlying22 Tryd.underlying5
  go_enter Tryd.func18, Tryd.ntmps18
  go_wp2_with fail
  generalize hw3 : World.alloc w _ = w3
  have hz3 : w.heap.size + 1 = w3.heap.size := by rw [← hw3]; simp
  have b3 : Below w.heap.size w w3 := by rw [← hw3]; exact (Below.refl _ _).alloc (Nat.le_refl _) _
  clear hw3
  rw [hz3] at HB ⊢
  rw [kc]
  clear hz3 kc
  simp only [Result.andThen]
  rw [Oper.upon_value]
  generalize hw4 : World.alloc w3 _ = w4
  have b34 : Below w3.heap.size w3 w4 := by rw [← hw4]; exact (Below.refl _ _).alloc (Nat.le_refl _) _
  have B4 := hid (b3.trans (b34.mono b3.size))
  clear hw4 b3 b34
  go_wp2_with fail
  refine (HB.out w4).mono ?_
  rintro e w' ⟨rfl, rfl⟩
  go_wp2_with fail
  go_ret
  exact ⟨rfl, B4.out⟩
def abB : ByteArray := ⟨#[97, 98]⟩
set_option maxHeartbeats 400000 in
set_option maxRecDepth 100000 in
theorem awake_any (w : World) (hS : Salts w) :
    Calls Tryd.prog 10 #[] w fun e w' => e = .returned (.bool true) ∧ Below w.heap.size w w' := by
  have SA := hid hS
  clear hS
  go_enter Tryd.func10, Tryd.ntmps10
  go_wp2_with fail
  refine (ppass_any abB (by decide) (by decide) w).mono ?_
  rintro e w1 ⟨v1, rfl, o1, h1⟩
  obtain ⟨A1, c1, e1, a1⟩ := o1.arg (by unfold B256; decide)
  have A1' := hid a1
  have B1 := hid h1
  rw [show (abB.size :: nats abB).length = 3 from rfl] at e1
  subst e1
  clear o1 h1 a1
  go_wp2_with fail
  refine (one_any w1).mono ?_
  rintro e w' ⟨rfl, rfl⟩
  go_wp2_with fail
  refine (is_any 1 32 (by omega) (by omega) (by omega) (by omega) oneB key_one w1 (SA.out.on B1.out)).mono ?_
  rintro e w2 ⟨rfl, h2⟩
  have s2 := (A1'.out.on h2).str
  rw [show str (abB.size :: nats abB) = ⟨#[2, 97, 98]⟩ from rfl, show (abB.size :: nats abB).length = 3 from rfl] at s2
  have B2 := hid (B1.out.trans (h2.mono B1.out.size))
  clear h2 A1' B1
  go_wp2_with fail
  go_ret
  exact ⟨rfl, B2.out⟩
end Go.Proofs.YtnnhnlabkbjacaaDoor
namespace Go.Proofs.YtnnhnlabkbjacaaDoor
open Go.ChangeShapes Go.WideShapes Go.ChangeAt Go.RowKit
attribute [local go_sem] Gives
theorem str_none (w : World) : (convert 22 9 (.slice none 0 0)).run Tryd.prog w = .ok (.string (str [])) w :=
  run_bytes_str (A := .none) (l := []) (n := 0) (cap := 0) (B := 0) rfl (fun x hx => by cases hx) (fun _ => ⟨rfl, rfl⟩) (w := w) (Byt.none rfl)
theorem pass_256 {s : ByteArray} (h : s.size ≤ 48) : B256 (s.size :: nats s) := fun x hx => by
  rcases List.mem_cons.1 hx with rfl | hx
  · omega
  · exact nats_256 s x hx
set_option maxHeartbeats 400000 in
set_option maxRecDepth 100000 in
theorem passes_law (s : ByteArray) (w : World) (hS : Salts w) :
    Calls Tryd.prog 4 #[.string s] w fun e w' => e = .returned (.bool true) ∧ Below w.heap.size w w' := by
  have SA := hid hS
  clear hS
  by_cases hbad : s.size < 1 ∨ 48 < s.size
  · go_enter Tryd.func4, Tryd.ntmps4
    go_wp2_with fail
    refine (ppass_bad s hbad w).mono ?_
    rintro e w' ⟨rfl, rfl⟩
    go_wp2_with fail
    refine (rpwd_bad s hbad w).mono ?_
    rintro e w' ⟨rfl, rfl⟩
    have hc := str_none
    clear hbad
    go_wp2_with fail
    refine (awake_any w SA.out).mono ?_
    rintro e w2 ⟨rfl, h2⟩
    clear hc
    go_wp2_with fail
    go_ret
    exact ⟨rfl, h2⟩
  · have h1 : 1 ≤ s.size := by omega
    have h2 : s.size ≤ 48 := by omega
    have P1 := hid fun w => ppass_any s h1 h2 w
    have P2 := hid fun w => rpwd_any s h1 h2 w
    have hl : (s.size :: nats s).length = s.size + 1 := by rw [List.length_cons, nats_length]
    have hb := pass_256 h2
    generalize (s.size :: nats s) = l at *
    have HB := hid hb
    have HL := hid hl
    clear hbad hl hb h1 h2
    go_enter Tryd.func4, Tryd.ntmps4
    go_wp2_with fail
    refine (P1.out w).mono ?_
    rintro e w1 ⟨v1, rfl, o1, h1⟩
    obtain ⟨A1, c1, e1, a1⟩ := o1.arg HB.out
    subst e1
    have A1' := hid a1
    have B1 := hid h1
    clear o1 a1 h1
    go_wp2_with fail
    refine (P2.out w1).mono ?_
    rintro e w2 ⟨v2, rfl, o2, h2⟩
    obtain ⟨A2, c2, e2, a2⟩ := o2.arg HB.out
    subst e2
    have s2 := a2.str
    have s1 := (A1'.out.on h2).str
    have B2 := hid (B1.out.trans (h2.mono B1.out.size))
    clear o2 a2 h2 A1' B1 P1 P2
    generalize l.length = n at *
    go_wp2_with fail
    refine (awake_any w2 (SA.out.on B2.out)).mono ?_
    rintro e w3 ⟨rfl, h3⟩
    have b3 := B2.out.trans (h3.mono B2.out.size)
    clear h3 s1 s2
    go_wp2_with fail
    go_ret
    exact ⟨rfl, b3⟩
end Go.Proofs.YtnnhnlabkbjacaaDoor
