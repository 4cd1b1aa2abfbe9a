/- What this text holds: rows of the program's table of types, by the kernel. -/
import Derived.Test.YtambgimfbdecpaaDOf
namespace Go.Proofs.Ytambgimfbdecpaa
/-- What a sector, and a write, that holds nothing yet is: words of their own, so that no simp writes them out. -/
def zSec : Value := .agg (Array.replicate 512 (.int .u8 0))
def zwc : Array Value := #[.int .i64 0] ++ Array.replicate 512 (.int .u8 0)
def zWrite : Value := .agg zwc
theorem zSec_size : zSec.cells.size = 512 := by simp [zSec, Value.cells]
theorem zWrite_size : zWrite.cells.size = 513 := by simp [zWrite, zwc, Value.cells]
theorem Try.info96 : (Try.prog.info? 96).map (fun i => (i.zero, i.size, i.bytes)) = some (some zSec, 512, 512) := by kernel_rfl
theorem Try.info98 : (Try.prog.info? 98).map (fun i => (i.zero, i.size, i.bytes)) = some (some zWrite, 513, 520) := by kernel_rfl
end Go.Proofs.Ytambgimfbdecpaa
