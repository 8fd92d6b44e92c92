/-
  RUNS RECKONED AHEAD: the package variables that are known, a call that is reckoned once. By an AI agent.
-/
import Derived.Test.YtlgdmncioakkjaaGreatDoorCdEnv
import Derived.Test.YtlgdmncioakkjaaGreatDoorSmA
import Derived.Test.YtlgdmncioakkjaaGreatDoorSxM0
namespace Go.Proofs.YtlgdmncioakkjaaGreatDoor
open Go.RowKit Go.Sx
def gl : List Bk := [⟨3, #[.string ⟨#[112, 108, 117, 115]⟩, .string ⟨#[109, 105, 110, 117, 115]⟩, .string ⟨#[99, 104, 97, 114, 103, 101]⟩], 234, true, true⟩,
 ⟨0, #[.string ⟨#[98, 97, 115, 105, 99]⟩, .string ⟨#[117, 110, 105, 113, 117, 101]⟩, .string ⟨#[99, 114, 101, 97, 116, 117, 114, 101]⟩, .string ⟨#[105, 110, 115, 116, 97, 110, 116]⟩, .string ⟨#[114, 105, 116, 117, 97, 108]⟩, .string ⟨#[114, 101, 108, 105, 99]⟩, .string ⟨#[99, 104, 97, 114, 109]⟩, .string ⟨#[108, 97, 110, 100]⟩], 146, true, true⟩,
 ⟨1, #[.string ⟨#[97, 109, 98, 101, 114]⟩, .string ⟨#[99, 111, 98, 97, 108, 116]⟩, .string ⟨#[106, 101, 116]⟩, .string ⟨#[114, 117, 98, 121]⟩, .string ⟨#[101, 109, 101, 114, 97, 108, 100]⟩], 173, true, true⟩]
def ms1 : List UInt8 := [99,97,114,100,32,101,109,98,101,114,45,102,111,120,10,99,111,115,116,32,49,82,10,116,121,112,101,32,99,114,101,97,116,117,114,101,32,102,111,120,10,112,111,119,101,114,32,50,10,116,111,117,103,104,32,49,10,107,101,121,115,32,104,97,115,116,101,10]
def memoT : Memo := fun f args => match f, args with
  | 6, ⟨[.string s]⟩ => match bEq s.data.toList ms1 with
    | true => some (mv1, mk1, mb1)
    | false => none
  | _, _ => none
@[reducible] def fx0 : Fx := ⟨[], []⟩
def envT : EnvF := envOf envP (fun _ _ _ => none)
/-- a call from the globals alone: the value, how many numbers, the new blocks -/
noncomputable def fromG (f : FuncId) (args : Array Value) : Option (Value × Nat × List Bk) := match evCall Tryz.prog envT (@evCode fx0 Tryz.prog GN envT 400) f args ⟨GN, gl⟩ with
  | some (v, m) => some (v, m.n, newB GN m.bs)
  | none => none
noncomputable def aliveR : Option Value := match evCall Tryz.prog (envL GN memoT envT) (@evCode fx0 Tryz.prog GN (envL GN memoT envT) 400) 8 #[] ⟨GN, gl⟩ with
  | some (v, _) => some v
  | none => none
end Go.Proofs.YtlgdmncioakkjaaGreatDoor
