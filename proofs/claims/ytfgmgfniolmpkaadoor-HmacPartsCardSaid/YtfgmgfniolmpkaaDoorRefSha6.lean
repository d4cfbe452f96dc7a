/-
  Contract of the document's pass (casemateref03.Pass) over this translation.
-/
import Derived.Test.YtfgmgfniolmpkaaDoorRefSha5
namespace Go.Proofs.YtfgmgfniolmpkaaDoor
open Go.ChangeShapes Go.WideShapes Go.ChangeAt Go.RowKit
attribute [local go_sem] Gives
/-- The eight numbers. -/
def lst8 (s : ShaM.S8) : List Nat := [s.a, s.b, s.c, s.d, s.e, s.f, s.g, s.h]
theorem lst8_get (s : ShaM.S8) {j : Nat} (h : j < 8) : (lst8 s).getD j 0 = s.get j := by
  match j, h with
  | 0, _ | 1, _ | 2, _ | 3, _ | 4, _ | 5, _ | 6, _ | 7, _ => rfl
theorem nums_lit8 {w : World} {t : TypeId} {n : Nat} {x0 x1 x2 x3 x4 x5 x6 x7 : Nat} {B : Nat} (hn : n = w.heap.size) (hB : w.heap.size < B) :
    Nums .u32 (w.alloc (.cells #[.int .u32 (x0 : Nat), .int .u32 (x1 : Nat), .int .u32 (x2 : Nat), .int .u32 (x3 : Nat), .int .u32 (x4 : Nat), .int .u32 (x5 : Nat), .int .u32 (x6 : Nat), .int .u32 (x7 : Nat)] t)) B (some ⟨n, 0, none⟩) [x0, x1, x2, x3, x4, x5, x6, x7] := by
  subst hn
  refine Nums.row (Blk.top (t := t) rfl rfl) hB fun j hj => ?_
  match j, hj with
  | 0, _ | 1, _ | 2, _ | 3, _ | 4, _ | 5, _ | 6, _ | 7, _ => rfl
set_option maxHeartbeats 2000000 in
set_option maxRecDepth 100000 in
theorem rpass_any (s : ShaM.S8) (hs : s.ok) (A0 : Option Addr) (cap0 : Nat) (A : Option Addr) (l : List Nat) (cap : Nat) (hl : l.length = 64) (h256 : ∀ k, ShaM.at' l k < 256) (A9 : Option Addr) (cap9 : Nat) (w : World)
    (h0 : Nums .u32 w w.heap.size A0 (lst8 s)) (hA : Byt w w.heap.size A l) (h9 : Nums .u32 w w.heap.size A9 ShaM.salts) :
    Calls Tryd.prog 30 #[.slice A0 8 cap0, .slice A 64 cap, .slice A9 64 cap9] w fun e w' => Fresh .u32 w w' e (lst8 (ShaM.pass s (ShaM.at' l))) := by
  obtain ⟨b9, o9, rfl, hB9, hr9⟩ := h9 (by show 0 < 64; omega)
  obtain ⟨b0, o0, rfl, hB0, hr0⟩ := h0 (by show 0 < 8; omega)
  have HS := hid hs
  have HR9 := hid hr9
  have HR0 := hid hr0
  have HB := hid h256
  have M := message_any A l cap hl h256 w hA
  have hml := ShaM.sched_length (ShaM.at' l)
  have hmlt := fun i => ShaM.sched_lt HB.out i
  have hfin : ShaM.pass s (ShaM.at' l) = ShaM.addS (ShaM.steps (ShaM.sched (ShaM.at' l)) 64 s) s := rfl
  rw [hfin]
  clear hfin
  generalize ShaM.sched (ShaM.at' l) = m at *
  unfold Fresh at M
  rw [hml] at M
  have HMLT := hid hmlt
  have HML := hid hml
  have MM := hid M
  clear h0 hA h9 hr9 hr0 hs h256 hmlt hml M
  go_enter Tryd.func30, Tryd.ntmps30
  go_wp2_with fail
  refine MM.out.mono ?_
  rintro e w1 ⟨Am, cm, rfl, _, _, hm, hb1⟩
  obtain ⟨bm, om, rfl, hBm, hrm⟩ := hm (by rw [HML.out]; omega)
  have HRM := hid hrm
  have HB1 := hid hb1
  clear hrm hb1 hm MM
  have N0 : Nums .u32 w1 w1.heap.size (some ⟨b0, o0, none⟩) (lst8 s) := fun _ => ⟨b0, o0, rfl, Nat.lt_of_lt_of_le hB0 HB1.out.size, fun i hi => (HB1.out.cell (p := ⟨b0, o0 + i, none⟩) hB0).trans (HR0.out i hi)⟩
  have HN0 := hid N0
  clear N0
  go_wp2_with fail
  go_loopw [8, 9] (fun u v wr => ∃ (i : Nat) (An : Option Addr) (cn : Nat), i ≤ 64 ∧ v = .int .i64 i ∧ u = .slice An 8 cn ∧ Hid (Nums .u32 wr wr.heap.size An (lst8 (ShaM.steps m i s))) ∧ Hid (Below w1.heap.size w1 wr)) (fun _ v _ => 64 - (intOf v).toNat)
  case atStart => exact ⟨0, _, _, by omega, rfl, rfl, HN0, hid (Below.refl _ _)⟩
  case round =>
    obtain ⟨i, An, cn, hi, rfl, rfl, hn, hb⟩ := hrel
    clear HN0
    by_cases hlt : i < 64
    · have ti : (i : Int) < 64 := by omega
      obtain ⟨bn, on, rfl, hBn, hrn⟩ := hn.out (by show 0 < 8; omega)
      have hTok := ShaM.steps_ok m HS.out i
      have hstep : ShaM.steps m (i + 1) s = ShaM.step (ShaM.steps m i s) (ShaM.add (ShaM.saltAt i) (m.getD i 0)) := rfl
      have HSTEP := hid hstep
      clear hstep
      generalize hT : ShaM.steps m i s = T at *
      clear hT
      have hk := ShaM.salt_lt i
      have hmm := HMLT.out i
      have k9 : wr.cell? ⟨b9, o9 + i, none⟩ = some (.int .u32 (ShaM.saltAt i : Nat)) := (hb.out.cell (p := ⟨b9, o9 + i, none⟩) (Nat.lt_of_lt_of_le hB9 HB1.out.size)).trans ((HB1.out.cell (p := ⟨b9, o9 + i, none⟩) hB9).trans (HR9.out i hlt))
      have km : wr.cell? ⟨bm, om + i, none⟩ = some (.int .u32 (m.getD i 0 : Nat)) := (hb.out.cell (p := ⟨bm, om + i, none⟩) hBm).trans (HRM.out i (by rw [HML.out]; exact hlt))
      have hp := ShaM.pOf_sum T (ShaM.saltAt i) (m.getD i 0)
      have hq := ShaM.qOf_sum T
      have hst : ShaM.step T (ShaM.add (ShaM.saltAt i) (m.getD i 0)) = ⟨ShaM.add (ShaM.pOf T (ShaM.add (ShaM.saltAt i) (m.getD i 0))) (ShaM.qOf T), T.a, T.b, T.c, ShaM.add T.d (ShaM.pOf T (ShaM.add (ShaM.saltAt i) (m.getD i 0))), T.e, T.f, T.g⟩ := rfl
      rw [hst] at HSTEP
      generalize ShaM.pOf T (ShaM.add (ShaM.saltAt i) (m.getD i 0)) = P at *
      generalize ShaM.qOf T = Q at *
      generalize ShaM.saltAt i = kk at *
      generalize m.getD i 0 = mm at *
      obtain ⟨la, lb, lc, ld, le', lf, lg, lh⟩ := hTok
      have K0 := hid (hrn 0 (by show 0 < 8; omega))
      have K1 := hid (hrn 1 (by show 1 < 8; omega))
      have K2 := hid (hrn 2 (by show 2 < 8; omega))
      have K3 := hid (hrn 3 (by show 3 < 8; omega))
      have K4 := hid (hrn 4 (by show 4 < 8; omega))
      have K5 := hid (hrn 5 (by show 5 < 8; omega))
      have K6 := hid (hrn 6 (by show 6 < 8; omega))
      have K7 := hid (hrn 7 (by show 7 < 8; omega))
      obtain ⟨a, b, c, d, e, f, g, h⟩ := T
      simp only [lst8, List.getD_cons_zero, List.getD_cons_succ, Nat.add_zero] at K0 K1 K2 K3 K4 K5 K6 K7
      simp only [] at la lb lc ld le' lf lg lh hp hq HSTEP
      have K9 := hid k9
      have KM := hid km
      clear hrn k9 km hn hst
      have r6 := ShaM.rr_lt le' 6
      have r11 := ShaM.rr_lt le' 11
      have r25 := ShaM.rr_lt le' 25
      have r2 := ShaM.rr_lt la 2
      have r13 := ShaM.rr_lt la 13
      have r22 := ShaM.rr_lt la 22
      have c6 := hid fun w => rrot_any e 6 le' (by omega) (by omega) w
      have c11 := hid fun w => rrot_any e 11 le' (by omega) (by omega) w
      have c25 := hid fun w => rrot_any e 25 le' (by omega) (by omega) w
      have c2 := hid fun w => rrot_any a 2 la (by omega) (by omega) w
      have c13 := hid fun w => rrot_any a 13 la (by omega) (by omega) w
      have c22 := hid fun w => rrot_any a 22 la (by omega) (by omega) w
      have cc := hid fun w => chosen_any e f g le' lf lg w
      have ct := hid fun w => two_any a b c la lb lc w
      have lch := ShaM.chN_lt (e := e) lf lg
      have ltw := ShaM.twN_lt (a := a) lb lc
      obtain ⟨z1, hz1⟩ : ∃ z, z = ShaM.rr e 6 ^^^ ShaM.rr e 11 := ⟨_, rfl⟩
      obtain ⟨z2, hz2⟩ : ∃ z, z = z1 ^^^ ShaM.rr e 25 := ⟨_, rfl⟩
      obtain ⟨y1, hy1⟩ : ∃ z, z = ShaM.rr a 2 ^^^ ShaM.rr a 13 := ⟨_, rfl⟩
      obtain ⟨y2, hy2⟩ : ∃ z, z = y1 ^^^ ShaM.rr a 22 := ⟨_, rfl⟩
      have lz1 : z1 < 4294967296 := by rw [hz1]; exact Nat.xor_lt_two_pow (n := 32) r6 r11
      have ly1 : y1 < 4294967296 := by rw [hy1]; exact Nat.xor_lt_two_pow (n := 32) r2 r13
      have lz2 : z2 < 4294967296 := by rw [hz2]; exact Nat.xor_lt_two_pow (n := 32) lz1 r25
      have ly2 : y2 < 4294967296 := by rw [hy2]; exact Nat.xor_lt_two_pow (n := 32) ly1 r22
      have X1 : Hid (bits .xor .u32 ((ShaM.rr e 6 : Nat) : Int) ((ShaM.rr e 11 : Nat) : Int) = (z1 : Int)) := hid (by rw [hz1]; exact xor3 r6 r11)
      have X2 : Hid (bits .xor .u32 (z1 : Int) ((ShaM.rr e 25 : Nat) : Int) = (z2 : Int)) := hid (by rw [hz2]; exact xor3 lz1 r25)
      have Y1 : Hid (bits .xor .u32 ((ShaM.rr a 2 : Nat) : Int) ((ShaM.rr a 13 : Nat) : Int) = (y1 : Int)) := hid (by rw [hy1]; exact xor3 r2 r13)
      have Y2 : Hid (bits .xor .u32 (y1 : Int) ((ShaM.rr a 22 : Nat) : Int) = (y2 : Int)) := hid (by rw [hy2]; exact xor3 ly1 r22)
      rw [← hz1, ← hz2] at hp
      rw [← hy1, ← hy2] at hq
      generalize ShaM.chN e f g = ch at *
      generalize ShaM.twN a b c = tw at *
      obtain ⟨P1, hP1⟩ : ∃ z, z = ShaM.add h z2 := ⟨_, rfl⟩
      obtain ⟨P2, hP2⟩ : ∃ z, z = ShaM.add P1 ch := ⟨_, rfl⟩
      obtain ⟨P3, hP3⟩ : ∃ z, z = ShaM.add P2 kk := ⟨_, rfl⟩
      rw [← hP1, ← hP2, ← hP3] at hp
      have lP1 : P1 < 4294967296 := by rw [hP1]; exact ShaM.add_lt _ _
      have lP2 : P2 < 4294967296 := by rw [hP2]; exact ShaM.add_lt _ _
      have lP3 : P3 < 4294967296 := by rw [hP3]; exact ShaM.add_lt _ _
      have lP : P < 4294967296 := by rw [hp]; exact ShaM.add_lt _ _
      have lQ : Q < 4294967296 := by rw [hq]; exact ShaM.add_lt _ _
      have S1 : Hid (IntKind.u32.wrap ((h : Int) + (z2 : Int)) = (P1 : Int)) := hid (by rw [hP1]; exact add_wrap _ _)
      have S2 : Hid (IntKind.u32.wrap ((P1 : Int) + (ch : Int)) = (P2 : Int)) := hid (by rw [hP2]; exact add_wrap _ _)
      have S3 : Hid (IntKind.u32.wrap ((P2 : Int) + (kk : Int)) = (P3 : Int)) := hid (by rw [hP3]; exact add_wrap _ _)
      have S4 : Hid (IntKind.u32.wrap ((P3 : Int) + (mm : Int)) = (P : Int)) := hid (by rw [hp]; exact add_wrap _ _)
      have U1 : Hid (IntKind.u32.wrap ((y2 : Int) + (tw : Int)) = (Q : Int)) := hid (by rw [hq]; exact add_wrap _ _)
      obtain ⟨PQ, hPQ⟩ : ∃ z, z = ShaM.add P Q := ⟨_, rfl⟩
      obtain ⟨dP, hdP⟩ : ∃ z, z = ShaM.add d P := ⟨_, rfl⟩
      rw [← hPQ, ← hdP] at HSTEP
      have V1 : Hid (IntKind.u32.wrap ((P : Int) + (Q : Int)) = (PQ : Int)) := hid (by rw [hPQ]; exact add_wrap _ _)
      have V2 : Hid (IntKind.u32.wrap ((d : Int) + (P : Int)) = (dP : Int)) := hid (by rw [hdP]; exact add_wrap _ _)
      clear hp hq hz1 hz2 hy1 hy2 hP1 hP2 hP3 hPQ hdP r6 r11 r25 r2 r13 r22
      have k4 := K4.out
      go_wp2_with fail
      clear k4
      refine wp_region_tail (C := Drew wr) 31 (by kernel_rfl) (by kernel_rfl) (by kernel_rfl) (Drew.refl _) ?_
      simp only [List.take_succ_cons, List.take_zero, List.drop_succ_cons, List.drop_zero]
      apply wpK_val
      · rfl
      · intro w' hw'
        go_simp
        first | exact rfl | exact ⟨rfl, hw'⟩
      simp only [Act.put, List.setIfInBounds_toArray, List.set_cons_succ, List.set_cons_zero]
      apply wpK_val
      · rfl
      · intro w' hw'
        go_simp
        first | exact rfl | exact ⟨rfl, hw'⟩
      simp only [Act.put, List.setIfInBounds_toArray, List.set_cons_succ, List.set_cons_zero]
      apply wpK_val
      · rfl
      · intro w' hw'
        have hcell := hw'.cell K7.out
        go_simp
        first | exact rfl | exact ⟨rfl, hw'⟩
      simp only [Act.put, List.setIfInBounds_toArray, List.set_cons_succ, List.set_cons_zero]
      apply wpK_val
      · rfl
      · intro w' hw'
        go_simp
        first | exact rfl | exact ⟨rfl, hw'⟩
      simp only [Act.put, List.setIfInBounds_toArray, List.set_cons_succ, List.set_cons_zero]
      apply wpK_val
      · rfl
      · intro w' hw'
        go_simp
        exact (c6.out _).mono fun e w'' ⟨he, hb''⟩ => ⟨he, hb'' ▸ hw'⟩
      simp only [Act.put, List.setIfInBounds_toArray, List.set_cons_succ, List.set_cons_zero]
      apply wpK_val
      · rfl
      · intro w' hw'
        go_simp
        first | exact rfl | exact ⟨rfl, hw'⟩
      simp only [Act.put, List.setIfInBounds_toArray, List.set_cons_succ, List.set_cons_zero]
      apply wpK_val
      · rfl
      · intro w' hw'
        go_simp
        exact (c11.out _).mono fun e w'' ⟨he, hb''⟩ => ⟨he, hb'' ▸ hw'⟩
      simp only [Act.put, List.setIfInBounds_toArray, List.set_cons_succ, List.set_cons_zero]
      apply wpK_val
      · rfl
      · intro w' hw'
        have h1 : _ := X1.out
        go_simp
        first | exact rfl | exact ⟨rfl, hw'⟩
      simp only [Act.put, List.setIfInBounds_toArray, List.set_cons_succ, List.set_cons_zero]
      apply wpK_val
      · rfl
      · intro w' hw'
        go_simp
        first | exact rfl | exact ⟨rfl, hw'⟩
      simp only [Act.put, List.setIfInBounds_toArray, List.set_cons_succ, List.set_cons_zero]
      apply wpK_val
      · rfl
      · intro w' hw'
        go_simp
        exact (c25.out _).mono fun e w'' ⟨he, hb''⟩ => ⟨he, hb'' ▸ hw'⟩
      simp only [Act.put, List.setIfInBounds_toArray, List.set_cons_succ, List.set_cons_zero]
      apply wpK_val
      · rfl
      · intro w' hw'
        have h1 : _ := X2.out
        go_simp
        first | exact rfl | exact ⟨rfl, hw'⟩
      simp only [Act.put, List.setIfInBounds_toArray, List.set_cons_succ, List.set_cons_zero]
      apply wpK_val
      · rfl
      · intro w' hw'
        have h1 : _ := S1.out
        go_simp
        first | exact rfl | exact ⟨rfl, hw'⟩
      simp only [Act.put, List.setIfInBounds_toArray, List.set_cons_succ, List.set_cons_zero]
      apply wpK_val
      · rfl
      · intro w' hw'
        go_simp
        first | exact rfl | exact ⟨rfl, hw'⟩
      simp only [Act.put, List.setIfInBounds_toArray, List.set_cons_succ, List.set_cons_zero]
      apply wpK_val
      · rfl
      · intro w' hw'
        go_simp
        first | exact rfl | exact ⟨rfl, hw'⟩
      simp only [Act.put, List.setIfInBounds_toArray, List.set_cons_succ, List.set_cons_zero]
      apply wpK_val
      · rfl
      · intro w' hw'
        go_simp
        first | exact rfl | exact ⟨rfl, hw'⟩
      simp only [Act.put, List.setIfInBounds_toArray, List.set_cons_succ, List.set_cons_zero]
      apply wpK_val
      · rfl
      · intro w' hw'
        have hcell := hw'.cell K5.out
        go_simp
        first | exact rfl | exact ⟨rfl, hw'⟩
      simp only [Act.put, List.setIfInBounds_toArray, List.set_cons_succ, List.set_cons_zero]
      apply wpK_val
      · rfl
      · intro w' hw'
        go_simp
        first | exact rfl | exact ⟨rfl, hw'⟩
      simp only [Act.put, List.setIfInBounds_toArray, List.set_cons_succ, List.set_cons_zero]
      apply wpK_val
      · rfl
      · intro w' hw'
        go_simp
        first | exact rfl | exact ⟨rfl, hw'⟩
      simp only [Act.put, List.setIfInBounds_toArray, List.set_cons_succ, List.set_cons_zero]
      apply wpK_val
      · rfl
      · intro w' hw'
        have hcell := hw'.cell K6.out
        go_simp
        first | exact rfl | exact ⟨rfl, hw'⟩
      simp only [Act.put, List.setIfInBounds_toArray, List.set_cons_succ, List.set_cons_zero]
      apply wpK_val
      · rfl
      · intro w' hw'
        go_simp
        exact (cc.out _).mono fun e w'' ⟨he, hb''⟩ => ⟨he, hb'' ▸ hw'⟩
      simp only [Act.put, List.setIfInBounds_toArray, List.set_cons_succ, List.set_cons_zero]
      apply wpK_val
      · rfl
      · intro w' hw'
        have h1 : _ := S2.out
        go_simp
        first | exact rfl | exact ⟨rfl, hw'⟩
      simp only [Act.put, List.setIfInBounds_toArray, List.set_cons_succ, List.set_cons_zero]
      apply wpK_val
      · rfl
      · intro w' hw'
        go_simp
        first | exact rfl | exact ⟨rfl, hw'⟩
      simp only [Act.put, List.setIfInBounds_toArray, List.set_cons_succ, List.set_cons_zero]
      apply wpK_val
      · rfl
      · intro w' hw'
        go_simp
        first | exact rfl | exact ⟨rfl, hw'⟩
      simp only [Act.put, List.setIfInBounds_toArray, List.set_cons_succ, List.set_cons_zero]
      apply wpK_val
      · rfl
      · intro w' hw'
        go_simp
        first | exact rfl | exact ⟨rfl, hw'⟩
      simp only [Act.put, List.setIfInBounds_toArray, List.set_cons_succ, List.set_cons_zero]
      apply wpK_val
      · rfl
      · intro w' hw'
        have hcell := hw'.cell K9.out
        go_simp
        first | exact rfl | exact ⟨rfl, hw'⟩
      simp only [Act.put, List.setIfInBounds_toArray, List.set_cons_succ, List.set_cons_zero]
      apply wpK_val
      · rfl
      · intro w' hw'
        have h1 : _ := S3.out
        go_simp
        first | exact rfl | exact ⟨rfl, hw'⟩
      simp only [Act.put, List.setIfInBounds_toArray, List.set_cons_succ, List.set_cons_zero]
      apply wpK_val
      · rfl
      · intro w' hw'
        go_simp
        first | exact rfl | exact ⟨rfl, hw'⟩
      simp only [Act.put, List.setIfInBounds_toArray, List.set_cons_succ, List.set_cons_zero]
      apply wpK_val
      · rfl
      · intro w' hw'
        go_simp
        first | exact rfl | exact ⟨rfl, hw'⟩
      simp only [Act.put, List.setIfInBounds_toArray, List.set_cons_succ, List.set_cons_zero]
      apply wpK_val
      · rfl
      · intro w' hw'
        go_simp
        first | exact rfl | exact ⟨rfl, hw'⟩
      simp only [Act.put, List.setIfInBounds_toArray, List.set_cons_succ, List.set_cons_zero]
      apply wpK_val
      · rfl
      · intro w' hw'
        have hcell := hw'.cell KM.out
        go_simp
        first | exact rfl | exact ⟨rfl, hw'⟩
      simp only [Act.put, List.setIfInBounds_toArray, List.set_cons_succ, List.set_cons_zero]
      apply wpK_val
      · rfl
      · intro w' hw'
        have h1 : _ := S4.out
        go_simp
        first | exact rfl | exact ⟨rfl, hw'⟩
      simp only [Act.put, List.setIfInBounds_toArray, List.set_cons_succ, List.set_cons_zero]
      refine wpK_nil fun w5 hw5 => ?_
      go_wp2_with fail
      refine wp_region_tail (C := Drew wr) 25 (by kernel_rfl) (by kernel_rfl) (by kernel_rfl) (hw5.trans (Drew.refl _)) ?_
      simp only [List.take_succ_cons, List.take_zero, List.drop_succ_cons, List.drop_zero]
      apply wpK_val
      · rfl
      · intro w' hw'
        go_simp
        first | exact rfl | exact ⟨rfl, hw'⟩
      simp only [Act.put, List.setIfInBounds_toArray, List.set_cons_succ, List.set_cons_zero]
      apply wpK_val
      · rfl
      · intro w' hw'
        go_simp
        first | exact rfl | exact ⟨rfl, hw'⟩
      simp only [Act.put, List.setIfInBounds_toArray, List.set_cons_succ, List.set_cons_zero]
      apply wpK_val
      · rfl
      · intro w' hw'
        have hcell := hw'.cell K0.out
        go_simp
        first | exact rfl | exact ⟨rfl, hw'⟩
      simp only [Act.put, List.setIfInBounds_toArray, List.set_cons_succ, List.set_cons_zero]
      apply wpK_val
      · rfl
      · intro w' hw'
        go_simp
        exact (c2.out _).mono fun e w'' ⟨he, hb''⟩ => ⟨he, hb'' ▸ hw'⟩
      simp only [Act.put, List.setIfInBounds_toArray, List.set_cons_succ, List.set_cons_zero]
      apply wpK_val
      · rfl
      · intro w' hw'
        go_simp
        first | exact rfl | exact ⟨rfl, hw'⟩
      simp only [Act.put, List.setIfInBounds_toArray, List.set_cons_succ, List.set_cons_zero]
      apply wpK_val
      · rfl
      · intro w' hw'
        go_simp
        first | exact rfl | exact ⟨rfl, hw'⟩
      simp only [Act.put, List.setIfInBounds_toArray, List.set_cons_succ, List.set_cons_zero]
      apply wpK_val
      · rfl
      · intro w' hw'
        have hcell := hw'.cell K0.out
        go_simp
        first | exact rfl | exact ⟨rfl, hw'⟩
      simp only [Act.put, List.setIfInBounds_toArray, List.set_cons_succ, List.set_cons_zero]
      apply wpK_val
      · rfl
      · intro w' hw'
        go_simp
        exact (c13.out _).mono fun e w'' ⟨he, hb''⟩ => ⟨he, hb'' ▸ hw'⟩
      simp only [Act.put, List.setIfInBounds_toArray, List.set_cons_succ, List.set_cons_zero]
      apply wpK_val
      · rfl
      · intro w' hw'
        have h1 : _ := Y1.out
        go_simp
        first | exact rfl | exact ⟨rfl, hw'⟩
      simp only [Act.put, List.setIfInBounds_toArray, List.set_cons_succ, List.set_cons_zero]
      apply wpK_val
      · rfl
      · intro w' hw'
        go_simp
        first | exact rfl | exact ⟨rfl, hw'⟩
      simp only [Act.put, List.setIfInBounds_toArray, List.set_cons_succ, List.set_cons_zero]
      apply wpK_val
      · rfl
      · intro w' hw'
        go_simp
        first | exact rfl | exact ⟨rfl, hw'⟩
      simp only [Act.put, List.setIfInBounds_toArray, List.set_cons_succ, List.set_cons_zero]
      apply wpK_val
      · rfl
      · intro w' hw'
        have hcell := hw'.cell K0.out
        go_simp
        first | exact rfl | exact ⟨rfl, hw'⟩
      simp only [Act.put, List.setIfInBounds_toArray, List.set_cons_succ, List.set_cons_zero]
      apply wpK_val
      · rfl
      · intro w' hw'
        go_simp
        exact (c22.out _).mono fun e w'' ⟨he, hb''⟩ => ⟨he, hb'' ▸ hw'⟩
      simp only [Act.put, List.setIfInBounds_toArray, List.set_cons_succ, List.set_cons_zero]
      apply wpK_val
      · rfl
      · intro w' hw'
        have h1 : _ := Y2.out
        go_simp
        first | exact rfl | exact ⟨rfl, hw'⟩
      simp only [Act.put, List.setIfInBounds_toArray, List.set_cons_succ, List.set_cons_zero]
      apply wpK_val
      · rfl
      · intro w' hw'
        go_simp
        first | exact rfl | exact ⟨rfl, hw'⟩
      simp only [Act.put, List.setIfInBounds_toArray, List.set_cons_succ, List.set_cons_zero]
      apply wpK_val
      · rfl
      · intro w' hw'
        go_simp
        first | exact rfl | exact ⟨rfl, hw'⟩
      simp only [Act.put, List.setIfInBounds_toArray, List.set_cons_succ, List.set_cons_zero]
      apply wpK_val
      · rfl
      · intro w' hw'
        have hcell := hw'.cell K0.out
        go_simp
        first | exact rfl | exact ⟨rfl, hw'⟩
      simp only [Act.put, List.setIfInBounds_toArray, List.set_cons_succ, List.set_cons_zero]
      apply wpK_val
      · rfl
      · intro w' hw'
        go_simp
        first | exact rfl | exact ⟨rfl, hw'⟩
      simp only [Act.put, List.setIfInBounds_toArray, List.set_cons_succ, List.set_cons_zero]
      apply wpK_val
      · rfl
      · intro w' hw'
        go_simp
        first | exact rfl | exact ⟨rfl, hw'⟩
      simp only [Act.put, List.setIfInBounds_toArray, List.set_cons_succ, List.set_cons_zero]
      apply wpK_val
      · rfl
      · intro w' hw'
        have hcell := hw'.cell K1.out
        go_simp
        first | exact rfl | exact ⟨rfl, hw'⟩
      simp only [Act.put, List.setIfInBounds_toArray, List.set_cons_succ, List.set_cons_zero]
      apply wpK_val
      · rfl
      · intro w' hw'
        go_simp
        first | exact rfl | exact ⟨rfl, hw'⟩
      simp only [Act.put, List.setIfInBounds_toArray, List.set_cons_succ, List.set_cons_zero]
      apply wpK_val
      · rfl
      · intro w' hw'
        go_simp
        first | exact rfl | exact ⟨rfl, hw'⟩
      simp only [Act.put, List.setIfInBounds_toArray, List.set_cons_succ, List.set_cons_zero]
      apply wpK_val
      · rfl
      · intro w' hw'
        have hcell := hw'.cell K2.out
        go_simp
        first | exact rfl | exact ⟨rfl, hw'⟩
      simp only [Act.put, List.setIfInBounds_toArray, List.set_cons_succ, List.set_cons_zero]
      apply wpK_val
      · rfl
      · intro w' hw'
        go_simp
        exact (ct.out _).mono fun e w'' ⟨he, hb''⟩ => ⟨he, hb'' ▸ hw'⟩
      simp only [Act.put, List.setIfInBounds_toArray, List.set_cons_succ, List.set_cons_zero]
      apply wpK_val
      · rfl
      · intro w' hw'
        have h1 : _ := U1.out
        go_simp
        first | exact rfl | exact ⟨rfl, hw'⟩
      simp only [Act.put, List.setIfInBounds_toArray, List.set_cons_succ, List.set_cons_zero]
      refine wpK_nil fun w6 hw6 => ?_
      clear hw5
      go_wp2_with fail
      refine wp_region_tail (C := Drew wr) 26 (by kernel_rfl) (by kernel_rfl) (by kernel_rfl) (hw6.trans (Drew.refl _)) ?_
      simp only [List.take_succ_cons, List.take_zero, List.drop_succ_cons, List.drop_zero]
      apply wpK_val
      · rfl
      · intro w' hw'
        go_simp
        first | exact rfl | exact ⟨rfl, hw'⟩
      simp only [Act.put, List.setIfInBounds_toArray, List.set_cons_succ, List.set_cons_zero]
      apply wpK_val
      · rfl
      · intro w' hw'
        go_simp
        first | exact rfl | exact ⟨rfl, hw'⟩
      simp only [Act.put, List.setIfInBounds_toArray, List.set_cons_succ, List.set_cons_zero]
      apply wpK_val
      · rfl
      · intro w' hw'
        have h1 : _ := V1.out
        go_simp
        first | exact rfl | exact ⟨rfl, hw'⟩
      simp only [Act.put, List.setIfInBounds_toArray, List.set_cons_succ, List.set_cons_zero]
      apply wpK_val
      · rfl
      · intro w' hw'
        go_simp
        first | exact rfl | exact ⟨rfl, hw'⟩
      simp only [Act.put, List.setIfInBounds_toArray, List.set_cons_succ, List.set_cons_zero]
      apply wpK_val
      · rfl
      · intro w' hw'
        go_simp
        first | exact rfl | exact ⟨rfl, hw'⟩
      simp only [Act.put, List.setIfInBounds_toArray, List.set_cons_succ, List.set_cons_zero]
      apply wpK_val
      · rfl
      · intro w' hw'
        have hcell := hw'.cell K0.out
        go_simp
        first | exact rfl | exact ⟨rfl, hw'⟩
      simp only [Act.put, List.setIfInBounds_toArray, List.set_cons_succ, List.set_cons_zero]
      apply wpK_val
      · rfl
      · intro w' hw'
        go_simp
        first | exact rfl | exact ⟨rfl, hw'⟩
      simp only [Act.put, List.setIfInBounds_toArray, List.set_cons_succ, List.set_cons_zero]
      apply wpK_val
      · rfl
      · intro w' hw'
        go_simp
        first | exact rfl | exact ⟨rfl, hw'⟩
      simp only [Act.put, List.setIfInBounds_toArray, List.set_cons_succ, List.set_cons_zero]
      apply wpK_val
      · rfl
      · intro w' hw'
        have hcell := hw'.cell K1.out
        go_simp
        first | exact rfl | exact ⟨rfl, hw'⟩
      simp only [Act.put, List.setIfInBounds_toArray, List.set_cons_succ, List.set_cons_zero]
      apply wpK_val
      · rfl
      · intro w' hw'
        go_simp
        first | exact rfl | exact ⟨rfl, hw'⟩
      simp only [Act.put, List.setIfInBounds_toArray, List.set_cons_succ, List.set_cons_zero]
      apply wpK_val
      · rfl
      · intro w' hw'
        go_simp
        first | exact rfl | exact ⟨rfl, hw'⟩
      simp only [Act.put, List.setIfInBounds_toArray, List.set_cons_succ, List.set_cons_zero]
      apply wpK_val
      · rfl
      · intro w' hw'
        have hcell := hw'.cell K2.out
        go_simp
        first | exact rfl | exact ⟨rfl, hw'⟩
      simp only [Act.put, List.setIfInBounds_toArray, List.set_cons_succ, List.set_cons_zero]
      apply wpK_val
      · rfl
      · intro w' hw'
        go_simp
        first | exact rfl | exact ⟨rfl, hw'⟩
      simp only [Act.put, List.setIfInBounds_toArray, List.set_cons_succ, List.set_cons_zero]
      apply wpK_val
      · rfl
      · intro w' hw'
        go_simp
        first | exact rfl | exact ⟨rfl, hw'⟩
      simp only [Act.put, List.setIfInBounds_toArray, List.set_cons_succ, List.set_cons_zero]
      apply wpK_val
      · rfl
      · intro w' hw'
        have hcell := hw'.cell K3.out
        go_simp
        first | exact rfl | exact ⟨rfl, hw'⟩
      simp only [Act.put, List.setIfInBounds_toArray, List.set_cons_succ, List.set_cons_zero]
      apply wpK_val
      · rfl
      · intro w' hw'
        go_simp
        first | exact rfl | exact ⟨rfl, hw'⟩
      simp only [Act.put, List.setIfInBounds_toArray, List.set_cons_succ, List.set_cons_zero]
      apply wpK_val
      · rfl
      · intro w' hw'
        have h1 : _ := V2.out
        go_simp
        first | exact rfl | exact ⟨rfl, hw'⟩
      simp only [Act.put, List.setIfInBounds_toArray, List.set_cons_succ, List.set_cons_zero]
      apply wpK_val
      · rfl
      · intro w' hw'
        go_simp
        first | exact rfl | exact ⟨rfl, hw'⟩
      simp only [Act.put, List.setIfInBounds_toArray, List.set_cons_succ, List.set_cons_zero]
      apply wpK_val
      · rfl
      · intro w' hw'
        go_simp
        first | exact rfl | exact ⟨rfl, hw'⟩
      simp only [Act.put, List.setIfInBounds_toArray, List.set_cons_succ, List.set_cons_zero]
      apply wpK_val
      · rfl
      · intro w' hw'
        have hcell := hw'.cell K4.out
        go_simp
        first | exact rfl | exact ⟨rfl, hw'⟩
      simp only [Act.put, List.setIfInBounds_toArray, List.set_cons_succ, List.set_cons_zero]
      apply wpK_val
      · rfl
      · intro w' hw'
        go_simp
        first | exact rfl | exact ⟨rfl, hw'⟩
      simp only [Act.put, List.setIfInBounds_toArray, List.set_cons_succ, List.set_cons_zero]
      apply wpK_val
      · rfl
      · intro w' hw'
        go_simp
        first | exact rfl | exact ⟨rfl, hw'⟩
      simp only [Act.put, List.setIfInBounds_toArray, List.set_cons_succ, List.set_cons_zero]
      apply wpK_val
      · rfl
      · intro w' hw'
        have hcell := hw'.cell K5.out
        go_simp
        first | exact rfl | exact ⟨rfl, hw'⟩
      simp only [Act.put, List.setIfInBounds_toArray, List.set_cons_succ, List.set_cons_zero]
      apply wpK_val
      · rfl
      · intro w' hw'
        go_simp
        first | exact rfl | exact ⟨rfl, hw'⟩
      simp only [Act.put, List.setIfInBounds_toArray, List.set_cons_succ, List.set_cons_zero]
      apply wpK_val
      · rfl
      · intro w' hw'
        go_simp
        first | exact rfl | exact ⟨rfl, hw'⟩
      simp only [Act.put, List.setIfInBounds_toArray, List.set_cons_succ, List.set_cons_zero]
      apply wpK_val
      · rfl
      · intro w' hw'
        have hcell := hw'.cell K6.out
        go_simp
        first | exact rfl | exact ⟨rfl, hw'⟩
      simp only [Act.put, List.setIfInBounds_toArray, List.set_cons_succ, List.set_cons_zero]
      refine wpK_nil fun w7 hw7 => ?_
      have hb7 := hw7.below hb.out
      have hsz := hb7.size
      clear hw6
      go_wp2_with fail
      go_roundw
      case rel =>
        exact ⟨i + 1, some ⟨w7.heap.size, 0, none⟩, 8, by omega, by go_num, rfl, hid (by rw [HSTEP.out]; exact nums_lit8 rfl (by simp)), hid (hb7.alloc hsz _)⟩
      case measure => simp [intOf] <;> omega
    · obtain rfl : i = 64 := by omega
      rw [show ((64 : Nat) : Int) = (64 : Int) from rfl]
      obtain ⟨bn, on, rfl, hBn, hrn⟩ := hn.out (by show 0 < 8; omega)
      have hTok := ShaM.steps_ok m HS.out 64
      generalize hTE : ShaM.steps m 64 s = T at *
      have HTE := hid hTE
      clear hTE
      obtain ⟨w2, hw2⟩ : ∃ w2, w2 = wr := ⟨_, rfl⟩
      subst hw2
      have HRN := hid hrn
      have HT := hid hTok
      have hb2 := HB1.out.trans (hb.out.mono HB1.out.size)
      have HB2 := hid hb2
      have cb0 : b0 < w2.heap.size := Nat.lt_of_lt_of_le hB0 hb2.size
      have C0 : Hid (∀ j, j < 8 → w2.cell? ⟨b0, o0 + j, none⟩ = some (.int .u32 (s.get j : Nat))) := hid fun j hj => by
        rw [← lst8_get s hj]
        exact (hb2.cell (p := ⟨b0, o0 + j, none⟩) hB0).trans (HR0.out j hj)
      have CN : Hid (∀ j, j < 8 → w2.cell? ⟨bn, on + j, none⟩ = some (.int .u32 (T.get j : Nat))) := hid fun j hj => by
        rw [← lst8_get T hj]
        exact HRN.out j hj
      clear hrn hn hTok hb2 hb HRN
      go_wp2_with fail
      go_loopw [13, 14] (fun u v wr => ∃ (i : Nat) (vo : Value), i ≤ 8 ∧ v = .int .i64 i ∧ u = vo ∧ Hid (Own 46 .u32 wr w2.heap.size vo ((lst8 (ShaM.addS T s)).take i)) ∧ Hid (Below w2.heap.size w2 wr)) (fun _ v _ => 8 - (intOf v).toNat)
      case atStart => exact ⟨0, _, by omega, rfl, rfl, hid Own.nil, hid (Below.refl _ _)⟩
      case round =>
        obtain ⟨i, vo, hi, rfl, rfl, ho, hb⟩ := hrel
        by_cases hlt : i < 8
        · have ti : (i : Int) < 8 := by omega
          have x1 := ShaM.S8.get_lt HT.out i
          have x2 := ShaM.S8.get_lt HS.out i
          have Q1 := hid ((hb.out.cell (p := ⟨bn, on + i, none⟩) hBn).trans (CN.out i hlt))
          have Q2 := hid ((hb.out.cell (p := ⟨b0, o0 + i, none⟩) cb0).trans (C0.out i hlt))
          have hst : (lst8 (ShaM.addS T s)).take (i + 1) = (lst8 (ShaM.addS T s)).take i ++ [ShaM.add (T.get i) (s.get i)] := by
            have hl8 : i < (lst8 (ShaM.addS T s)).length := hlt
            rw [List.take_succ_eq_append_getElem hl8, ← nums_at hl8, lst8_get _ hlt, ShaM.addS_get _ _ hlt]
          have HST := hid hst
          have hlen : ((lst8 (ShaM.addS T s)).take i).length = i := by rw [List.length_take]; show min i 8 = i; omega
          have HLEN := hid hlen
          clear hst hlen
          generalize T.get i = u1 at *
          generalize s.get i = u2 at *
          obtain ⟨u3, hu3⟩ : ∃ z, z = ShaM.add u1 u2 := ⟨_, rfl⟩
          rw [← hu3] at HST
          have S1 : Hid (IntKind.u32.wrap ((u1 : Int) + (u2 : Int)) = (u3 : Int)) := hid (by rw [hu3]; exact add_wrap _ _)
          have u3l : u3 < 4294967296 := by rw [hu3]; exact ShaM.add_lt _ _
          have hBn' : bn < wr.heap.size := Nat.lt_of_lt_of_le hBn hb.out.size
          have hB0' : b0 < wr.heap.size := Nat.lt_of_lt_of_le cb0 hb.out.size
          have hszw := hb.out.size
          clear hu3
          go_wp2_with fail
          refine wp_region_put (C := Put wr (.cells #[.int .u32 (u3 : Nat)] 46)) 10 11 (by omega) (by kernel_rfl) (by kernel_rfl) (by kernel_rfl) (Drew.refl _) ?_
          simp only [List.take_succ_cons, List.take_zero, List.drop_succ_cons, List.drop_zero]
          apply wpS_val
          · decide
          · rfl
          · intro bb w' hw'
            go_simp
            first | exact rfl | exact ⟨rfl, hw'⟩
          simp only [Act.put, List.setIfInBounds_toArray, List.set_cons_succ, List.set_cons_zero]
          apply wpS_val
          · decide
          · rfl
          · intro bb w' hw'
            go_simp
            first | exact rfl | exact ⟨rfl, hw'⟩
          simp only [Act.put, List.setIfInBounds_toArray, List.set_cons_succ, List.set_cons_zero]
          apply wpS_val
          · decide
          · rfl
          · intro bb w' hw'
            go_simp
            first | exact rfl | exact ⟨rfl, hw'⟩
          simp only [Act.put, List.setIfInBounds_toArray, List.set_cons_succ, List.set_cons_zero]
          apply wpS_val
          · decide
          · rfl
          · intro bb w' hw'
            go_simp
            first | exact rfl | exact ⟨rfl, hw'⟩
          simp only [Act.put, List.setIfInBounds_toArray, List.set_cons_succ, List.set_cons_zero]
          apply wpS_val
          · decide
          · rfl
          · intro bb w' hw'
            have hcell : _ := hw'.cell hBn' Q1.out
            go_simp
            first | exact rfl | exact ⟨rfl, hw'⟩
          simp only [Act.put, List.setIfInBounds_toArray, List.set_cons_succ, List.set_cons_zero]
          apply wpS_val
          · decide
          · rfl
          · intro bb w' hw'
            go_simp
            first | exact rfl | exact ⟨rfl, hw'⟩
          simp only [Act.put, List.setIfInBounds_toArray, List.set_cons_succ, List.set_cons_zero]
          apply wpS_val
          · decide
          · rfl
          · intro bb w' hw'
            go_simp
            first | exact rfl | exact ⟨rfl, hw'⟩
          simp only [Act.put, List.setIfInBounds_toArray, List.set_cons_succ, List.set_cons_zero]
          apply wpS_val
          · decide
          · rfl
          · intro bb w' hw'
            go_simp
            first | exact rfl | exact ⟨rfl, hw'⟩
          simp only [Act.put, List.setIfInBounds_toArray, List.set_cons_succ, List.set_cons_zero]
          apply wpS_val
          · decide
          · rfl
          · intro bb w' hw'
            have hcell : _ := hw'.cell hB0' Q2.out
            go_simp
            first | exact rfl | exact ⟨rfl, hw'⟩
          simp only [Act.put, List.setIfInBounds_toArray, List.set_cons_succ, List.set_cons_zero]
          apply wpS_val
          · decide
          · rfl
          · intro bb w' hw'
            have h1 : _ := S1.out
            go_simp
            first | exact rfl | exact ⟨rfl, hw'⟩
          simp only [Act.put, List.setIfInBounds_toArray, List.set_cons_succ, List.set_cons_zero]
          apply wpS_put
          · rfl
          · rfl
          · intro w' hw'
            have hw3 : Drew wr w' := hw'
            have hz := hw3.heap
            go_simp
            exact ⟨rfl, w', hw3, rfl⟩
          simp only [Act.put, List.setIfInBounds_toArray, List.set_cons_succ, List.set_cons_zero]
          refine wpS_nil fun w8 hw8 => ?_
          obtain ⟨w7, h7, rfl⟩ := hw8
          have hz7 : wr.heap.size = w7.heap.size := by rw [h7.heap]
          have o7 := hid (ho.out.heap h7.heap)
          have b7 := hid (h7.below hb.out)
          have HZ7 := hid hz7
          clear h7 hz7 S1 Q1 Q2 hBn' hB0'
          go_wp2_with (at_builtin; (with_reducible apply wappN elt32); rfl; rfl; exact o7.out.alloc _; exact nums_one' (x := u3) (B := w7.heap.size + 1) rfl HZ7.out (Nat.lt_succ_self _); rfl; (rw [HLEN.out]; omega); (simp; have := HZ7.out; omega); intro v' w9 o9 g9)
          have b9 := below_grown (b7.out.alloc (by have := HZ7.out; omega) (.cells #[.int .u32 (u3 : Nat)] 46)) g9 o7.out (Nat.le_refl _) (Nat.le_refl _)
          go_roundw
          case rel => exact ⟨i + 1, v', by omega, by go_num, rfl, hid (by rw [HST.out]; exact o9), hid b9⟩
          case measure => simp [intOf] <;> omega
        · obtain rfl : i = 8 := by omega
          have ho8 := ho.out
          rw [show (lst8 (ShaM.addS T s)).take 8 = lst8 (ShaM.addS T s) from rfl] at ho8
          have hfin := hid (ho8.fresh (HB2.out.trans (hb.out.mono HB2.out.size)))
          clear ho ho8
          go_wp2_with fail
          go_ret
          have hf := hfin.out
          rw [← HTE.out] at hf
          exact hf
end Go.Proofs.YtfgmgfniolmpkaaDoor
