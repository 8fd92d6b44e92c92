/-
  RUNS RECKONED AHEAD: the package variables that are known, two calls that are reckoned once. By an AI agent.
-/
import Derived.Test.YtahhlpfanddfeaaGreatDoorSxEnv
import Derived.Test.YtahhlpfanddfeaaGreatDoorSxM0
namespace Go.Proofs.YtahhlpfanddfeaaGreatDoor
open Go.RowKit Go.Sx
def gl : List Bk := [⟨0, #[.string ⟨#[112, 108, 117, 115]⟩, .string ⟨#[109, 105, 110, 117, 115]⟩, .string ⟨#[99, 104, 97, 114, 103, 101]⟩], 81, true, true⟩,
 ⟨1, #[.string ⟨#[98, 97, 115, 105, 99]⟩, .string ⟨#[117, 110, 105, 113, 117, 101]⟩, .string ⟨#[99, 114, 101, 97, 116, 117, 114, 101]⟩, .string ⟨#[105, 110, 115, 116, 97, 110, 116]⟩, .string ⟨#[114, 105, 116, 117, 97, 108]⟩, .string ⟨#[114, 101, 108, 105, 99]⟩, .string ⟨#[99, 104, 97, 114, 109]⟩, .string ⟨#[108, 97, 110, 100]⟩], 116, true, true⟩,
 ⟨3, #[.string ⟨#[97, 109, 98, 101, 114]⟩, .string ⟨#[99, 111, 98, 97, 108, 116]⟩, .string ⟨#[106, 101, 116]⟩, .string ⟨#[114, 117, 98, 121]⟩, .string ⟨#[101, 109, 101, 114, 97, 108, 100]⟩], 166, true, true⟩]
abbrev GN : Nat := 11
def ms1 : List UInt8 := [100,97,109,97,103,101,32,116,97,114,103,101,116,49,32,51,59,32,100,114,97,119,32,121,111,117,32,49]
def ms2 : List UInt8 := [109,111,100,32,101,97,99,104,40,121,111,117,114,115,32,99,114,101,97,116,117,114,101,41,32,91,112,116,43,61,49,47,49,44,32,107,101,121,115,43,61,104,97,115,116,101,93]
def memoT : Memo := fun f args => match f, args with
  | 21, ⟨[.string s]⟩ => match bEq s.data.toList ms1 with
    | true => some (mv1, mk1, mb1)
    | false => none
  | 17, ⟨[.string s]⟩ => match bEq s.data.toList ms2 with
    | true => some (mv2, mk2, mb2)
    | false => none
  | _, _ => none
@[reducible] def fx0 : Fx := ⟨[], []⟩
def envT : EnvF := envOf envP (fun _ _ _ => none)
/-- a call from the globals alone: the value, how many numbers, the new blocks -/
noncomputable def fromG (f : FuncId) (args : Array Value) : Option (Value × Nat × List Bk) := match evCall Tryz.prog envT (@evCode fx0 Tryz.prog GN envT 400) f args ⟨GN, gl⟩ with
  | some (v, m) => some (v, m.n, newB GN m.bs)
  | none => none
noncomputable def aliveR : Option Value := match evCall Tryz.prog (envL GN memoT envT) (@evCode fx0 Tryz.prog GN (envL GN memoT envT) 400) 10 #[] ⟨GN, gl⟩ with
  | some (v, _) => some v
  | none => none
end Go.Proofs.YtahhlpfanddfeaaGreatDoor
