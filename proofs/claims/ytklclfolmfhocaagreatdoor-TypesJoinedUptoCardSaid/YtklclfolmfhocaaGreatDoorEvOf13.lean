/-
  The calls that lictorlaw13.lives makes, each evaluated once, its answer kept. Written by wip/lives13gen.py. No walk.
-/
import Derived.Test.YtklclfolmfhocaaGreatDoorEvNow
namespace Go.Proofs.YtklclfolmfhocaaGreatDoor.Ev
open Go.ChangeShapes Go.WideShapes Go.ChangeAt Go.RowKit
open Go.Proofs.YtklclfolmfhocaaGreatDoor.Mem
set_option linter.unusedVariables false
set_option maxRecDepth 100000
def text13 : Value := .string ⟨⟨[101, 110, 116, 105, 116, 121, 32, 85, 115, 101, 114, 32, 123, 97, 103, 101, 58, 32, 76, 111, 110, 103, 125, 59, 32, 101, 110, 116, 105, 116, 121, 32, 68, 111, 99, 32, 123, 125, 59]⟩⟩
def kept13 : Kept := ⟨.tuple ⟨[.agg ⟨[.slice (some ⟨0, 0, none⟩) 2 0, .slice none 0 0]⟩, .int .i64 (.ofNat 0), .int .i64 (.ofNat 0)]⟩, [⟨[.string ⟨⟨[85, 115, 101, 114]⟩⟩, .slice none 0 0, .slice (some ⟨1, 0, none⟩) 1 0, .string ⟨⟨[68, 111, 99]⟩⟩, .slice none 0 0, .slice none 0 0], 57, some 3, false⟩, ⟨[.string ⟨⟨[97, 103, 101]⟩⟩, .int .u8 (.ofNat 2), .string ⟨⟨[]⟩⟩, .slice none 0 0, .slice none 0 0], 53, some 5, false⟩]⟩
theorem kept13_eval : keptB (evCall Tryz.prog (evDraw Tryz.prog) orc 3000 46 [text13] st1) [2085, 1708] kept13 = true := by kernel_rfl
theorem kept13_ans : KeptAns LaidS 46 [text13] kept13 := kept_of (fun W h => begunS h) orc_ok rfl kept13_eval
noncomputable def orc13 : CallF := withK seenS 46 [text13] kept13 orc
theorem orc13_ok : CallOk Tryz.prog orc13 := withK_ok (fun h e => seenS_laid h e) rfl kept13_ans orc_ok
def of13t0 : Value := .string ⟨⟨[91, 49, 44, 32, 34, 97, 34, 93]⟩⟩
def of13k0 : Kept := ⟨.tuple ⟨[.agg ⟨[.int .u8 (.ofNat 0), .string ⟨⟨[]⟩⟩, .slice none 0 0, .slice none 0 0]⟩, .int .i64 (.ofNat 7)]⟩, []⟩
theorem of13e0 : keptB (evCall Tryz.prog (evDraw Tryz.prog) orc13 3000 15 [of13t0] st0) [] of13k0 = true := by kernel_rfl
theorem of13a0 : KeptAns Laid 15 [of13t0] of13k0 := kept_of (fun W h => begun h) orc13_ok rfl of13e0
def of13t1 : Value := .string ⟨⟨[91, 93]⟩⟩
def of13k1 : Kept := ⟨.tuple ⟨[.agg ⟨[.int .u8 (.ofNat 5), .string ⟨⟨[]⟩⟩, .slice (some ⟨0, 0, none⟩) 1 0, .slice none 0 0]⟩, .int .i64 (.ofNat 0)]⟩, [⟨[.int .u8 (.ofNat 0), .string ⟨⟨[]⟩⟩, .slice none 0 0, .slice none 0 0], 26, some 4, false⟩]⟩
theorem of13e1 : keptB (evCall Tryz.prog (evDraw Tryz.prog) orc13 3000 15 [of13t1] st0) [1791] of13k1 = true := by kernel_rfl
theorem of13a1 : KeptAns Laid 15 [of13t1] of13k1 := kept_of (fun W h => begun h) orc13_ok rfl of13e1
def of13t2 : Value := .string ⟨⟨[91, 112, 114, 105, 110, 99, 105, 112, 97, 108, 44, 32, 114, 101, 115, 111, 117, 114, 99, 101, 93]⟩⟩
def of13k2 : Kept := ⟨.tuple ⟨[.agg ⟨[.int .u8 (.ofNat 5), .string ⟨⟨[]⟩⟩, .slice (some ⟨0, 0, none⟩) 1 0, .slice none 0 0]⟩, .int .i64 (.ofNat 0)]⟩, [⟨[.int .u8 (.ofNat 4), .string ⟨⟨[]⟩⟩, .slice none 0 0, .slice none 0 0], 26, some 4, false⟩]⟩
theorem of13e2 : keptB (evCall Tryz.prog (evDraw Tryz.prog) orc13 3000 15 [of13t2] st0) [3429] of13k2 = true := by kernel_rfl
theorem of13a2 : KeptAns Laid 15 [of13t2] of13k2 := kept_of (fun W h => begun h) orc13_ok rfl of13e2
def of13t3 : Value := .string ⟨⟨[112, 114, 105, 110, 99, 105, 112, 97, 108, 46, 97, 103, 101, 32, 43, 32, 49]⟩⟩
def of13k3 : Kept := ⟨.tuple ⟨[.agg ⟨[.int .u8 (.ofNat 2), .string ⟨⟨[]⟩⟩, .slice none 0 0, .slice none 0 0]⟩, .int .i64 (.ofNat 0)]⟩, []⟩
theorem of13e3 : keptB (evCall Tryz.prog (evDraw Tryz.prog) orc13 3000 15 [of13t3] st0) [] of13k3 = true := by kernel_rfl
theorem of13a3 : KeptAns Laid 15 [of13t3] of13k3 := kept_of (fun W h => begun h) orc13_ok rfl of13e3
def of13t4 : Value := .string ⟨⟨[114, 101, 115, 111, 117, 114, 99, 101, 46, 97, 103, 101]⟩⟩
def of13k4 : Kept := ⟨.tuple ⟨[.agg ⟨[.int .u8 (.ofNat 0), .string ⟨⟨[]⟩⟩, .slice none 0 0, .slice none 0 0]⟩, .int .i64 (.ofNat 8)]⟩, []⟩
theorem of13e4 : keptB (evCall Tryz.prog (evDraw Tryz.prog) orc13 3000 15 [of13t4] st0) [] of13k4 = true := by kernel_rfl
theorem of13a4 : KeptAns Laid 15 [of13t4] of13k4 := kept_of (fun W h => begun h) orc13_ok rfl of13e4
end Go.Proofs.YtklclfolmfhocaaGreatDoor.Ev
