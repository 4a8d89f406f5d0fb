/-
  The walk of the statement PoolNames.
-/
import Derived.Test.YtlmdijijlbmddaaPlAlive
import Derived.Test.YtlmdijijlbmddaaPlTile
namespace Go.Proofs.Ytlmdijijlbmddaa.pool
open Go.RowKit

theorem AlW.go {z p y : Nat} {w X : World} {s s' : PS} {f : FuncId} {args : Array Value} {v : Value} (h : AlW z p y w X s) (hc : Calls Try.prog f args X fun e w' => e = .returned v ∧ PB z w' p z s' ∧ KT z TT X w') :
    Calls Try.prog f args X fun e w' => e = .returned v ∧ AlW z p y w w' s' := by
  refine hc.mono ?_
  rintro e w' ⟨rfl, h1, k1⟩
  exact ⟨rfl, h1, h.2.keep k1⟩
theorem AlW.old {z p y : Nat} {w X : World} {s : PS} {f : FuncId} {args : Array Value} {v : Value} (h : AlW z p y w X s) (hc : Calls Try.prog f args X fun e w' => e = .returned v ∧ Below X.heap.size X w') :
    Calls Try.prog f args X fun e w' => e = .returned v ∧ AlW z p y w w' s := by
  refine hc.mono ?_
  rintro e w' ⟨rfl, h1⟩
  exact ⟨rfl, h.1.below h1, h.2.below h1⟩
def B0 : PS := ps0 2
theorem nm_g0 : G 0 B0 := G.zero 2

def B1 : PS := (B0.pin 1 0).2
theorem nm_g1 : G 1 B1 := nm_g0.pin 1 0
theorem nm_1 {z p y : Nat} {w X : World} (h : AlW z p y w X B0) : Calls Try.prog 14 #[pv p, kvv 1 0] X fun e w' => e = .returned (.int .i64 0) ∧ AlW z p y w w' B1 := by
  have hc := pin_any 1 0 h.1 (nm_g0.ok (by decide)) h.2.zle
  rw [show (B0.pin 1 0).1 = 0 by decide +kernel] at hc
  exact h.go hc
def B2 : PS := (B1.set_ 1 0 0 77 5).2
theorem nm_g2 : G 1 B2 := nm_g1.set_ 1 0 0 77 5
theorem nm_2 {z p y : Nat} {w X : World} (h : AlW z p y w X B1) : Calls Try.prog 15 #[pv p, kvv 1 0, .int .i64 0, .int .i64 77, .int .i64 5] X fun e w' => e = .returned (.int .i64 0) ∧ AlW z p y w w' B2 := by
  have hc := plset_any 1 0 0 77 5 h.1 h.2.zle
  rw [show (B1.set_ 1 0 0 77 5).1 = 0 by decide +kernel] at hc
  exact h.go hc
def B3 : PS := (B2.set_ 1 0 1 78 3).2
theorem nm_g3 : G 1 B3 := nm_g2.set_ 1 0 1 78 3
theorem nm_3 {z p y : Nat} {w X : World} (h : AlW z p y w X B2) : Calls Try.prog 15 #[pv p, kvv 1 0, .int .i64 1, .int .i64 78, .int .i64 3] X fun e w' => e = .returned (.int .i64 0) ∧ AlW z p y w w' B3 := by
  have hc := plset_any 1 0 1 78 3 h.1 h.2.zle
  rw [show (B2.set_ 1 0 1 78 3).1 = 0 by decide +kernel] at hc
  exact h.go hc
def B4 : PS := (B3.unpin 1 0).2
theorem nm_g4 : G 1 B4 := nm_g3.unpin 1 0
theorem nm_4 {z p y : Nat} {w X : World} (h : AlW z p y w X B3) : Calls Try.prog 16 #[pv p, kvv 1 0] X fun e w' => e = .returned (.int .i64 0) ∧ AlW z p y w w' B4 := by
  have hc := unpin_any 1 0 h.1 (nm_g3.ok (by decide)) h.2.zle
  rw [show (B3.unpin 1 0).1 = 0 by decide +kernel] at hc
  exact h.go hc
def B5 : PS := (B4.pin 1 1).2
theorem nm_g5 : G 2 B5 := nm_g4.pin 1 1
theorem nm_5 {z p y : Nat} {w X : World} (h : AlW z p y w X B4) : Calls Try.prog 14 #[pv p, kvv 1 1] X fun e w' => e = .returned (.int .i64 0) ∧ AlW z p y w w' B5 := by
  have hc := pin_any 1 1 h.1 (nm_g4.ok (by decide)) h.2.zle
  rw [show (B4.pin 1 1).1 = 0 by decide +kernel] at hc
  exact h.go hc
def B6 : PS := (B5.unpin 1 1).2
theorem nm_g6 : G 2 B6 := nm_g5.unpin 1 1
theorem nm_6 {z p y : Nat} {w X : World} (h : AlW z p y w X B5) : Calls Try.prog 16 #[pv p, kvv 1 1] X fun e w' => e = .returned (.int .i64 0) ∧ AlW z p y w w' B6 := by
  have hc := unpin_any 1 1 h.1 (nm_g5.ok (by decide)) h.2.zle
  rw [show (B5.unpin 1 1).1 = 0 by decide +kernel] at hc
  exact h.go hc
def B7 : PS := (B6.pin 1 0).2
theorem nm_g7 : G 3 B7 := nm_g6.pin 1 0
theorem nm_7 {z p y : Nat} {w X : World} (h : AlW z p y w X B6) : Calls Try.prog 14 #[pv p, kvv 1 0] X fun e w' => e = .returned (.int .i64 0) ∧ AlW z p y w w' B7 := by
  have hc := pin_any 1 0 h.1 (nm_g6.ok (by decide)) h.2.zle
  rw [show (B6.pin 1 0).1 = 0 by decide +kernel] at hc
  exact h.go hc
def B8 : PS := (B7.unpin 1 0).2
theorem nm_g8 : G 3 B8 := nm_g7.unpin 1 0
theorem nm_8 {z p y : Nat} {w X : World} (h : AlW z p y w X B7) : Calls Try.prog 16 #[pv p, kvv 1 0] X fun e w' => e = .returned (.int .i64 0) ∧ AlW z p y w w' B8 := by
  have hc := unpin_any 1 0 h.1 (nm_g7.ok (by decide)) h.2.zle
  rw [show (B7.unpin 1 0).1 = 0 by decide +kernel] at hc
  exact h.go hc
def B9 : PS := (B8.pin 2 0).2
theorem nm_g9 : G 4 B9 := nm_g8.pin 2 0
theorem nm_9 {z p y : Nat} {w X : World} (h : AlW z p y w X B8) : Calls Try.prog 14 #[pv p, kvv 2 0] X fun e w' => e = .returned (.int .i64 0) ∧ AlW z p y w w' B9 := by
  have hc := pin_any 2 0 h.1 (nm_g8.ok (by decide)) h.2.zle
  rw [show (B8.pin 2 0).1 = 0 by decide +kernel] at hc
  exact h.go hc
def B10 : PS := (B9.unpin 2 0).2
theorem nm_g10 : G 4 B10 := nm_g9.unpin 2 0
theorem nm_10 {z p y : Nat} {w X : World} (h : AlW z p y w X B9) : Calls Try.prog 16 #[pv p, kvv 2 0] X fun e w' => e = .returned (.int .i64 0) ∧ AlW z p y w w' B10 := by
  have hc := unpin_any 2 0 h.1 (nm_g9.ok (by decide)) h.2.zle
  rw [show (B9.unpin 2 0).1 = 0 by decide +kernel] at hc
  exact h.go hc
def B11 : PS := (B10.pin 2 0).2
theorem nm_g11 : G 5 B11 := nm_g10.pin 2 0
theorem nm_11 {z p y : Nat} {w X : World} (h : AlW z p y w X B10) : Calls Try.prog 14 #[pv p, kvv 2 0] X fun e w' => e = .returned (.int .i64 0) ∧ AlW z p y w w' B11 := by
  have hc := pin_any 2 0 h.1 (nm_g10.ok (by decide)) h.2.zle
  rw [show (B10.pin 2 0).1 = 0 by decide +kernel] at hc
  exact h.go hc
def B12 : PS := (B11.pin 2 0).2
theorem nm_g12 : G 6 B12 := nm_g11.pin 2 0
theorem nm_12 {z p y : Nat} {w X : World} (h : AlW z p y w X B11) : Calls Try.prog 14 #[pv p, kvv 2 0] X fun e w' => e = .returned (.int .i64 0) ∧ AlW z p y w w' B12 := by
  have hc := pin_any 2 0 h.1 (nm_g11.ok (by decide)) h.2.zle
  rw [show (B11.pin 2 0).1 = 0 by decide +kernel] at hc
  exact h.go hc
def B13 : PS := (B12.pin 1 1).2
theorem nm_g13 : G 7 B13 := nm_g12.pin 1 1
theorem nm_13 {z p y : Nat} {w X : World} (h : AlW z p y w X B12) : Calls Try.prog 14 #[pv p, kvv 1 1] X fun e w' => e = .returned (.int .i64 0) ∧ AlW z p y w w' B13 := by
  have hc := pin_any 1 1 h.1 (nm_g12.ok (by decide)) h.2.zle
  rw [show (B12.pin 1 1).1 = 0 by decide +kernel] at hc
  exact h.go hc
theorem nm_14 {z p y : Nat} {w X : World} (h : AlW z p y w X B13) : Calls Try.prog 16 #[pv p, kvv 1 0] X fun e w' => e = .returned (.int .i64 100) ∧ AlW z p y w w' B13 := by
  have hc := unpin_any 1 0 h.1 (nm_g13.ok (by decide)) h.2.zle
  rw [show B13.unpin 1 0 = (100, B13) by decide +kernel] at hc
  exact h.go hc
theorem nm_15 {z p y : Nat} {w X : World} (h : AlW z p y w X B13) : Calls Try.prog 21 #[pv p, kvv 2 0] X fun e w' => e = .returned (.int .i64 100) ∧ AlW z p y w w' B13 := by
  have hc := drop_any 2 0 h.1 h.2.zle
  rw [show B13.drop 2 0 = (100, B13) by decide +kernel] at hc
  exact h.go hc
theorem nm_16 {z p y : Nat} {w X : World} (h : AlW z p y w X B13) : Calls Try.prog 22 #[pv p, kvv 1 0] X fun e w' => e = .returned (.int .i64 100) ∧ AlW z p y w w' B13 := by
  have hc := clean_any 1 0 h.1 (nm_g13.ok (by decide)) h.2.zle
  rw [show B13.clean 1 0 = (100, B13) by decide +kernel] at hc
  exact h.go hc
theorem nm_17 {z p y : Nat} {w X : World} (h : AlW z p y w X B13) : Calls Try.prog 23 #[pv p, kvv 2 0, .int .i64 4] X fun e w' => e = .returned (.tuple #[.int .i64 0, .int .i64 100]) ∧ AlW z p y w w' B13 := by
  have hc := get_any 2 0 4 h.1 h.2.zle
  rw [show B13.get 2 0 4 = (0, 100) by decide +kernel] at hc
  exact h.go hc
theorem nm_18 {z p y : Nat} {w X : World} (h : AlW z p y w X B13) : Calls Try.prog 15 #[pv p, kvv 2 0, .int .i64 (-1), .int .i64 0, .int .i64 0] X fun e w' => e = .returned (.int .i64 100) ∧ AlW z p y w w' B13 := by
  have hc := plset_any 2 0 (-1) 0 0 h.1 h.2.zle
  rw [show B13.set_ 2 0 (-1) 0 0 = (100, B13) by decide +kernel] at hc
  exact h.go hc
theorem nm_19 {z p y : Nat} {w X : World} (h : AlW z p y w X B13) : Calls Try.prog 24 #[pv p, kvv 1 0] X fun e w' => e = .returned (.tuple #[.agg #[.int .i64 0, .int .i64 0, .int .i64 0, .slice none 0 0], .int .i64 100]) ∧ AlW z p y w w' B13 := by
  exact h.old (tile_no 1 0 h.1 (by decide +kernel))
theorem nm_20 {z p y : Nat} {w X : World} (h : AlW z p y w X B13) : Calls Try.prog 25 #[pv p, .agg #[.int .i64 2, .int .i64 0, .int .i64 0, .slice none 0 0]] X fun e w' => e = .returned (.int .i64 100) ∧ AlW z p y w w' B13 := by
  obtain ⟨r, hr⟩ : ∃ r, takeF (fun v => v.is 2 0) B13.fr = some r := Option.isSome_iff_exists.1 (by decide +kernel)
  exact h.old (fresh_there 2 0 0 h.1 hr)
theorem nm_21 {z p y : Nat} {w X : World} (h : AlW z p y w X B13) : Calls Try.prog 14 #[pv p, kvv 9 0] X fun e w' => e = .returned (.int .i64 101) ∧ AlW z p y w w' B13 := by
  have hc := pin_any 9 0 h.1 (nm_g13.ok (by decide)) h.2.zle
  rw [show B13.pin 9 0 = (101, B13) by decide +kernel] at hc
  exact h.go hc
def B14 : PS := (B13.unpin 1 1).2
theorem nm_g14 : G 7 B14 := nm_g13.unpin 1 1
theorem nm_22 {z p y : Nat} {w X : World} (h : AlW z p y w X B13) : Calls Try.prog 16 #[pv p, kvv 1 1] X fun e w' => e = .returned (.int .i64 0) ∧ AlW z p y w w' B14 := by
  have hc := unpin_any 1 1 h.1 (nm_g13.ok (by decide)) h.2.zle
  rw [show (B13.unpin 1 1).1 = 0 by decide +kernel] at hc
  exact h.go hc
def B15 : PS := (B14.pin 9 0).2
theorem nm_g15 : G 8 B15 := nm_g14.pin 9 0
theorem nm_23 {z p y : Nat} {w X : World} (h : AlW z p y w X B14) : Calls Try.prog 14 #[pv p, kvv 9 0] X fun e w' => e = .returned (.int .i64 50) ∧ AlW z p y w w' B15 := by
  have hc := pin_any 9 0 h.1 (nm_g14.ok (by decide)) h.2.zle
  rw [show (B14.pin 9 0).1 = 50 by decide +kernel] at hc
  exact h.go hc
theorem nm_24 {z p y : Nat} {w X : World} (h : AlW z p y w X B15) : Calls Try.prog 21 #[pv p, kvv 1 1] X fun e w' => e = .returned (.int .i64 100) ∧ AlW z p y w w' B15 := by
  have hc := drop_any 1 1 h.1 h.2.zle
  rw [show B15.drop 1 1 = (100, B15) by decide +kernel] at hc
  exact h.go hc
theorem nm_keys : B9.keys = [(2, 0), (1, 0)] := by decide +kernel
theorem nm_log9 : B9.log.length = 3 := by decide +kernel
theorem nm_log13 : B13.log = [⟨1, 0, 1⟩, ⟨1, 1, 1⟩, ⟨1, 0, 2⟩, ⟨2, 5, 0⟩, ⟨3, 0, 1⟩, ⟨1, 1, 1⟩] := by decide +kernel
theorem nm_pins13 : B13.pins = 3 ∧ B13.fr.length = 2 := by decide +kernel
theorem nm_L13 : B13.L.length = 12 ∧ B13.L[0]? = some ⟨1, 0, 1, [77, 78, -1, 7]⟩ := by decide +kernel
theorem nm_held15 : B15.fr.length = 1 := by decide +kernel
end Go.Proofs.Ytlmdijijlbmddaa.pool
