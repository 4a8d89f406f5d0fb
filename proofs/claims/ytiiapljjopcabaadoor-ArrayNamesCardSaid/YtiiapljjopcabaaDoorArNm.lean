/-
  Layer 11 (array): the texts that the statement ArrayNames names.
-/
import Derived.Test.YtiiapljjopcabaaDoorArAlive
import Derived.Test.YtiiapljjopcabaaDoorArRunes
import Derived.Test.YtiiapljjopcabaaDoorArRSame
import Derived.Test.YtiiapljjopcabaaDoorArMake
namespace Go.Proofs.YtiiapljjopcabaaDoor.arr
open Go.RowKit

theorem nm1 : (okA ⟨1, [1], [7]⟩ && decide (textV ⟨1, [1], [7]⟩ = [49, 226, 141, 180, 55])) = true := by decide +kernel
theorem nm2 : (okA ⟨2, [4], [105, 116, 39, 115]⟩ && decide (textV ⟨2, [4], [105, 116, 39, 115]⟩ = [39, 105, 116, 39, 39, 115, 39])) = true := by decide +kernel
theorem nm3 : (okA ⟨1, [2, 3], [1, 2, 3, 4, 5, 6]⟩ && decide (textV ⟨1, [2, 3], [1, 2, 3, 4, 5, 6]⟩ = [50, 32, 51, 226, 141, 180, 49, 32, 50, 32, 51, 32, 52, 32, 53, 32, 54])) = true := by decide +kernel
theorem nm4 : (okA ⟨1, [0], []⟩ && decide (textV ⟨1, [0], []⟩ = [48, 226, 141, 180, 48])) = true := by decide +kernel
theorem nm5 : (okA ⟨2, [0], []⟩ && decide (textV ⟨2, [0], []⟩ = [39, 39])) = true := by decide +kernel
theorem nm6 : (okA ⟨2, [], [97]⟩ && decide (textV ⟨2, [], [97]⟩ = [39, 97, 39])) = true := by decide +kernel
theorem nm7 : (okA ⟨2, [1], [97]⟩ && decide (textV ⟨2, [1], [97]⟩ = [49, 226, 141, 180, 39, 97, 39])) = true := by decide +kernel
theorem nm8 : (okA ⟨2, [0, 2], []⟩ && decide (textV ⟨2, [0, 2], []⟩ = [48, 32, 50, 226, 141, 180, 39, 39])) = true := by decide +kernel
theorem nm9 : (okA ⟨1, [], [-9223372036854775808]⟩ && decide (textV ⟨1, [], [-9223372036854775808]⟩ = [194, 175, 57, 50, 50, 51, 51, 55, 50, 48, 51, 54, 56, 53, 52, 55, 55, 53, 56, 48, 56])) = true := by decide +kernel
theorem rn1 : rn ⟨#[105, 116, 39, 115]⟩ (⟨#[105, 116, 39, 115]⟩ : ByteArray).size 0 = [105, 116, 39, 115] := by decide +kernel
theorem rn2 : rn ⟨#[]⟩ (⟨#[]⟩ : ByteArray).size 0 = [] := by decide +kernel
theorem rn3 : rn ⟨#[97]⟩ (⟨#[97]⟩ : ByteArray).size 0 = [97] := by decide +kernel
theorem rn4 : rn ⟨#[255, 195, 169]⟩ (⟨#[255, 195, 169]⟩ : ByteArray).size 0 = [65533, 233] := by decide +kernel
theorem ck1 : checkE ⟨1, [], []⟩ = 110 := by decide +kernel
theorem ck2 : checkE ⟨2, [], [1114112]⟩ = 110 := by decide +kernel
theorem ck3 : checkE ⟨2, [], [-1]⟩ = 110 := by decide +kernel
theorem ck4 : checkE ⟨2, [], [1114111]⟩ = 0 := by decide +kernel
theorem ck5 : okA ⟨0, [], []⟩ = false := by decide +kernel
theorem at1 : atB [2, 3] 4 = true ∧ atL [2, 3] 4 = [1, 1] := by decide +kernel
theorem at2 : atB [2, 3] 6 = false ∧ atL [2, 3] 6 = [] := by decide +kernel
theorem at3 : atB [] 0 = true ∧ atL [] 0 = [] := by decide +kernel
theorem pl1 : placeB [2, 3] [0, 3] = false ∧ placeV [2, 3] [0, 3] = 0 := by decide +kernel
theorem pl2 : placeB [2, 3] [0] = false ∧ placeV [2, 3] [0] = 0 := by decide +kernel
theorem ct1 : cntV [] = 1 ∧ cntE [] = 0 := by decide +kernel
theorem ct2 : cntV [0, 4096] = 0 ∧ cntE [0, 4096] = 0 := by decide +kernel
theorem ct3 : cntV [65, 64] = 0 ∧ cntE [65, 64] = 110 := by decide +kernel
theorem ct4 : cntV [0, 4097] = 0 ∧ cntE [0, 4097] = 110 := by decide +kernel
theorem ct5 : cntV [-1] = 0 ∧ cntE [-1] = 110 := by decide +kernel
theorem ct6 : cntV [0, 0, 0, 0, 0] = 0 ∧ cntE [0, 0, 0, 0, 0] = 110 := by decide +kernel
def nf1 (i : Int) : Int := wrap64 (i + 1)
theorem mk1 : checkE (makeA 1 [2, 3] nf1) = 0 ∧ okA (makeA 1 [2, 3] nf1) = true ∧ (makeA 1 [2, 3] nf1).el = [1, 2, 3, 4, 5, 6] := by decide +kernel
theorem mk2 : checkE (makeA 2 [1] (fun _ => 55296)) = 110 := by decide +kernel
theorem mk3 : checkE (makeA 3 [] (fun _ => 0)) = 110 := by decide +kernel
theorem n1_any (i : Int) (w : World) : Calls Tryd.prog 12 #[.int .i64 i] w fun e w' => e = .returned (.int .i64 (nf1 i)) ∧ w = w' := by
  go_enter Tryd.func12, Tryd.ntmps12
  go_wp2
  go_ret
  exact ⟨rfl, rfl⟩
theorem n2_any (i : Int) (w : World) : Calls Tryd.prog 13 #[.int .i64 i] w fun e w' => e = .returned (.int .i64 55296) ∧ w = w' := by
  go_enter Tryd.func13, Tryd.ntmps13
  go_wp2
  go_ret
  exact ⟨rfl, rfl⟩
theorem n3_any (i : Int) (w : World) : Calls Tryd.prog 14 #[.int .i64 i] w fun e w' => e = .returned (.int .i64 0) ∧ w = w' := by
  go_enter Tryd.func14, Tryd.ntmps14
  go_wp2
  go_ret
  exact ⟨rfl, rfl⟩
end Go.Proofs.YtiiapljjopcabaaDoor.arr
