/-
  AES-256 in plain numbers: the product by 2 of a sum.
-/
import Derived.Test.YtfnepbkgmopjcaaAesM
namespace Go.Proofs.Ytfnepbkgmopjcaa
namespace AesM
theorem dbl_xor {a b : Nat} (ha : a < 256) (hb : b < 256) : dbl (a ^^^ b) = dbl a ^^^ dbl b := by
  have h : (List.range 256).all (fun a => (List.range 256).all fun b => dbl (a ^^^ b) == (dbl a ^^^ dbl b)) = true := by decide +kernel
  rw [List.all_eq_true] at h
  have h1 := List.all_eq_true.1 (h a (List.mem_range.2 ha)) b (List.mem_range.2 hb)
  exact beq_iff_eq.1 h1
end AesM
end Go.Proofs.Ytfnepbkgmopjcaa
