/-
  A FILTER'S CELLS AS A LETTER. By an AI agent.
-/
import Derived.Test.YtboealolklojiaaDoorFilKit
import Derived.Test.YtboealolklojiaaDoorStruct
namespace Go.Proofs.YtboealolklojiaaDoor
open Go.RowKit
open Wd (Bs)

def cellsA (a : Fil.Acc) (gs : ByteArray) : Array Value := #[.int .i64 (a.zone : Int), .int .i64 (a.who : Int), .int .i64 (a.self : Int), .int .i64 (a.types : Int), .int .i64 (a.ntypes : Int), .int .i64 (a.colors : Int), .int .i64 (a.ncolors : Int), .string gs, .int .i64 (a.keys : Int), .int .i64 (a.tap : Int), .int .i64 a.pow.kind, .int .i64 a.pow.n, .int .i64 a.tough.kind, .int .i64 a.tough.n, .int .i64 a.val.kind, .int .i64 a.val.n]
def cellsZ : Array Value := #[.int .i64 0, .int .i64 0, .int .i64 0, .int .i64 0, .int .i64 0, .int .i64 0, .int .i64 0, .string ⟨#[]⟩, .int .i64 0, .int .i64 0, .int .i64 0, .int .i64 0, .int .i64 0, .int .i64 0, .int .i64 0, .int .i64 0]
theorem cellsA_one (a : Fil.Acc) (gs : ByteArray) : (cellsA a gs).all (·.oneCell') = true := by simp [cellsA, Value.oneCell']
theorem cellsZ_one : cellsZ.all (·.oneCell') = true := by simp [cellsZ, Value.oneCell']
theorem infoTF (a : Fil.Acc) (gs : ByteArray) : (Tryd.prog.info? 25).map (·.size) = some (cellsA a gs).size := by rw [sizeTF]; rfl
theorem infoTFZ : (Tryd.prog.info? 25).map (·.size) = some cellsZ.size := by rw [sizeTF]; rfl
theorem readA {w : World} {b : Nat} {a : Fil.Acc} {gs : ByteArray} (hk : Blk w b (cellsA a gs) 25) : (loadVar 25 ⟨b, 0, none⟩).run Tryd.prog w = .ok (.agg (cellsA a gs)) w := hk.readS Tryd.underlying25 rfl (infoTF a gs)
theorem readZ {w : World} {b : Nat} (hk : Blk w b cellsZ 25) : (loadVar 25 ⟨b, 0, none⟩).run Tryd.prog w = .ok (.agg cellsZ) w := hk.readS Tryd.underlying25 rfl infoTFZ
end Go.Proofs.YtboealolklojiaaDoor
