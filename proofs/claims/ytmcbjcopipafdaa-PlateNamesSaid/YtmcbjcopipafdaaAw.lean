/-
  The chapter's examples, as plain lists.
-/
import Derived.Test.YtmcbjcopipafdaaCarry
namespace Go.Proofs.Ytmcbjcopipafdaa
set_option linter.unusedVariables false

def fb (b : UInt8) : List UInt8 := List.replicate 64 b
theorem fb_len (b : UInt8) : (fb b).length = 64 := by simp [fb]
def aw0 : Pl := newP 2
def aw1 : Pl := (writeP aw0 0 (fb 1)).2
def aw2 : Pl := (writeP aw1 1 (fb 2)).2
def aw3 : Pl := (writeP aw2 0 (fb 3)).2
def aw4 : Pl := (crashP aw3 [false, true]).2
def aw5 : Pl := bootP aw4
def aw6 : Pl := (writeP aw5 0 (fb 1)).2
def aw7 : Pl := (flushP aw6).2
def aw8 : Pl := (writeP aw7 0 (fb 2)).2
def aw9 : Pl := (crashP aw8 []).2
def aw10 : Pl := bootP aw9
def aw11 : Pl := (failP aw10 1 []).2
def aw12 : Pl := (writeP aw11 0 (fb 3)).2
def aw13 : Pl := (flushP aw12).2
set_option maxRecDepth 100000
theorem aw_e1 : (writeP aw0 0 (fb 1)).1 = 0 := by decide +kernel
theorem aw_e2 : (writeP aw1 1 (fb 2)).1 = 0 := by decide +kernel
theorem aw_e3 : (writeP aw2 0 (fb 3)).1 = 0 := by decide +kernel
theorem aw_w3 : zs aw3.wt = [0, 1] := by decide +kernel
theorem aw_e4 : (crashP aw3 [false, true]).1 = 0 := by decide +kernel
theorem aw_d4 : aw4.dead = true := by decide +kernel
theorem aw_h5 : hasB aw5 0 0 = true := by decide +kernel
theorem aw_i5 : hasB aw5 1 2 = true := by decide +kernel
theorem aw_e6 : (writeP aw5 0 (fb 1)).1 = 0 := by decide +kernel
theorem aw_e7 : (flushP aw6).1 = 0 := by decide +kernel
theorem aw_e8 : (writeP aw7 0 (fb 2)).1 = 0 := by decide +kernel
theorem aw_e9 : (crashP aw8 []).1 = 0 := by decide +kernel
theorem aw_h10 : hasB aw10 0 1 = true := by decide +kernel
theorem aw_e11 : (failP aw10 1 []).1 = 0 := by decide +kernel
theorem aw_e12 : (writeP aw11 0 (fb 3)).1 = 0 := by decide +kernel
theorem aw_e13 : (flushP aw12).1 = 50 := by decide +kernel
theorem aw_d13 : aw13.dead = true := by decide +kernel
end Go.Proofs.Ytmcbjcopipafdaa
