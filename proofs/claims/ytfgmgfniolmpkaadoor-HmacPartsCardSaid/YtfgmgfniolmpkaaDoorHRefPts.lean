/-
  Contract of the document's Parts (casemateref04) over this translation.
-/
import Derived.Test.YtfgmgfniolmpkaaDoorPrts
import Derived.Test.YtfgmgfniolmpkaaDoorHRef2
import Derived.Test.YtfgmgfniolmpkaaDoorStr
namespace Go.Proofs.YtfgmgfniolmpkaaDoor
open Go.ChangeShapes Go.WideShapes Go.ChangeAt Go.RowKit
attribute [local go_sem] Gives
set_option maxHeartbeats 1000000 in
set_option maxRecDepth 100000 in
theorem rparts_any (K : Option Addr) (key : List Nat) (kn kcap : Nat) (hkn : kn ≤ 100000) (A : Option Addr) (ls : List (List Nat)) (n cap : Nat) (hl : ls.length = n) (hn : n ≤ 1000000) (hls : ∀ l ∈ ls, B256 l) (hz : (flat ls).length ≤ 90000) (w : World)
    (hK : Arg w K key kn kcap) (hA : PrtsN w w.heap.size A ls) :
    Calls Tryd.prog 15 #[.slice K kn kcap, .slice A n cap] w fun e w' => e = .returned (.agg (tag (HmM.tag key (flat ls)))) ∧ Below w.heap.size w w' := by
  have HA := hid hA
  have HK := hid hK
  have HL := hid hl
  have HLS := hid hls
  have HZ := hid hz
  clear hA hK hl hls hz
  go_enter Tryd.func15, Tryd.ntmps15
  go_wp2_with fail
  generalize hw1 : World.alloc w _ = w1
  have b1 : Blk w1 w.heap.size 25 (tag fun _ => 0) := by rw [← hw1]; exact Blk.top zlit_tag rfl
  have hb1 : Below w.heap.size w w1 := by rw [← hw1]; exact (Below.refl _ _).alloc (Nat.le_refl _) _
  have B1 := hid b1
  have W1 := hid hb1
  clear hw1 b1 hb1
  go_loopw [5, 6] (fun u v wr => ∃ (i : Nat) (vs : Value), i ≤ n ∧ v = .int .i64 i ∧ u = vs ∧ Hid (Own 5 .u8 wr w1.heap.size vs (flat (ls.take i))) ∧ Hid (Below w1.heap.size w1 wr)) (fun _ v _ => n - (intOf v).toNat)
  case atStart => exact ⟨0, _, by omega, rfl, rfl, hid Own.nil, hid (Below.refl _ _)⟩
  case round =>
    obtain ⟨i, vs, hi, rfl, rfl, ho, hb⟩ := hrel
    by_cases hlt : i < n
    · have ti : (i : Int) < n := by omega
      have BW := hid (W1.out.trans (hb.out.mono W1.out.size))
      obtain ⟨b, o, rfl, hbl, hr⟩ := HA.out (by rw [HL.out]; omega)
      obtain ⟨A', c, c0, h1, h2, h3, h4⟩ := hr i (by rw [HL.out]; exact hlt)
      have C0 := hid ((BW.out.cell (p := ⟨b, o + i, none⟩) hbl).trans c0)
      have BY := hid ((h3.below BW.out (Nat.le_refl _)).more BW.out.size)
      have ST := hid (flat_step (ls := ls) (i := i) (by rw [HL.out]; exact hlt))
      have N0 := hid h4
      have hle : (flat (ls.take i)).length + (ls.getD i []).length ≤ 1000000 := by
        have h5 := flat_take_le ls (i + 1)
        rw [ST.out, List.length_append] at h5
        have := HZ.out
        omega
      have HLE := hid hle
      clear hr c0 h1 h2 h3 h4 hle
      generalize ls.getD i [] = L at *
      have c0 := C0.out
      go_wp2_with (at_builtin; (with_reducible apply wappN_any eltB); rfl; rfl; exact N0.out; exact ho.out; exact BY.out.nums; rfl; exact HLE.out; exact hb.out.size; intro v9 w9 o9 g9)
      have b9 := below_grown hb.out g9 ho.out (Nat.le_refl _) (Nat.le_refl _)
      go_roundw
      case rel => exact ⟨i + 1, v9, by omega, by go_num, rfl, hid (by rw [ST.out]; exact o9), hid b9⟩
      case measure => simp [intOf]; omega
    · have ti : decide ((i : Int) < n) = false := by simp; omega
      obtain rfl : i = n := by omega
      have ho2 := ho.out
      rw [List.take_of_length_le (by rw [HL.out]; exact Nat.le_refl _)] at ho2
      have hf : B256 (flat ls) := flat_256 HLS.out
      obtain ⟨A3, c3, rfl, a3⟩ := ho2.arg hf
      have A3' := hid a3
      have BW := hid (W1.out.trans (hb.out.mono W1.out.size))
      have G1 := hid (B1.out.below hb.out B1.out.lt)
      have hz := HZ.out
      clear ho ho2 a3 hf
      go_wp2_with fail
      have k2 := HK.out.on BW.out
      refine (rof_any K key kn kcap k2.len hkn k2.none k2.b256 A3 (flat ls) _ c3 A3'.out.len hz A3'.out.none A3'.out.b256 wr k2.byt A3'.out.byt).mono ?_
      rintro e w5 ⟨rfl, h5⟩
      have g2 := G1.out.below h5 G1.out.lt
      have hb5 := BW.out.trans (h5.mono BW.out.size)
      clear h5 k2
      go_wp2_with ((with_reducible apply stt); rfl; rfl; exact g2)
      apply ret_row Tryd.results15
      · exact g2.setRow_same _
      · exact Tryd.underlying25
      · rfl
      · exact (info_tag.trans (by rw [size_tag]))
      · rfl
      · rfl
      exact ⟨rfl, below_setRow hb5 (Nat.le_refl _) _⟩
end Go.Proofs.YtfgmgfniolmpkaaDoor
