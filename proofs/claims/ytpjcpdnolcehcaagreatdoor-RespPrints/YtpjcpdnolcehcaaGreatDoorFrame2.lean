/- What this text holds: what the library's variables hold, out of the rows' list. -/
import Derived.Test.YtpjcpdnolcehcaaGreatDoorFrame
namespace Go.Proofs.YtpjcpdnolcehcaaGreatDoor
open Go.RowKit
set_option linter.unusedVariables false

theorem only_ran : laidL.filter (fun x => x.1 == "strconv.ErrRange") = [("strconv.ErrRange", Rows.laid_strconv_ErrRange)] := by kernel_rfl
theorem only_syn : laidL.filter (fun x => x.1 == "strconv.ErrSyntax") = [("strconv.ErrSyntax", Rows.laid_strconv_ErrSyntax)] := by kernel_rfl
theorem g_ran : Tryz.prog.globalNamed "strconv.ErrRange" = some 10 := by kernel_rfl
theorem g_syn : Tryz.prog.globalNamed "strconv.ErrSyntax" = some 9 := by kernel_rfl
theorem g_ranT : (Tryz.prog.globals[10]?).map (·.type) = some 106 := by kernel_rfl
theorem g_synT : (Tryz.prog.globals[9]?).map (·.type) = some 106 := by kernel_rfl
theorem star : ("*errors.errorString" : String) = "*" ++ "errors.errorString" := by decide +kernel
theorem row188 (u : TypeId) (h : Tryz.prog.typeName? 3 u = some "*errors.errorString") : u = 188 :=
  typeName_ptr_named (nm := "errors.errorString") (by rw [← star]; kernel_rfl) (by kernel_rfl) (by decide) u (by rw [← star]; exact h)
theorem cells190 : Tryz.prog.cellsOf 190 = 1 := by kernel_rfl
theorem cells9 : Tryz.prog.cellsOf 9 = 1 := by kernel_rfl
theorem cell_var {W : World} {nm : String} {g : Nat} {v : Value} (hg : Tryz.prog.globalNamed nm = some g) (h : W.var? Tryz.prog nm = some #[v]) : W.cell? ⟨g, 0, none⟩ = some v := by
  unfold World.var? at h
  rw [hg] at h
  simp only [Option.bind_some] at h
  simp only [World.cell?]
  rcases hh : W.heap[g]? with _ | o
  · rw [hh] at h; simp at h
  · rw [hh] at h
    cases o <;> simp at h
    subst h
    rfl
theorem env_of {W : World} (hL : laidMetH Tryz.prog laidL W) : Env W := by
  rw [MakeChecks.laidMetH_plain _ _ _ (by kernel_rfl)] at hL
  have h := laidMet.filter (fun x => x.1 == "internal/strconv.uint64pow10") hL
  rw [only_is, pow_is] at h
  have h1 := laidMet.filter (fun x => x.1 == "strconv.ErrRange") hL
  rw [only_ran] at h1
  obtain ⟨a1, s1, hv1, _⟩ := laid_sentinel h1 g_ran g_ranT Tryz.underlying106 row188 Tryz.underlying188 Tryz.underlying190 rfl rfl Tryz.underlying9 cells190 cells9
  have h2 := laidMet.filter (fun x => x.1 == "strconv.ErrSyntax") hL
  rw [only_syn] at h2
  obtain ⟨a2, s2, hv2, _⟩ := laid_sentinel h2 g_syn g_synT Tryz.underlying106 row188 Tryz.underlying188 Tryz.underlying190 rfl rfl Tryz.underlying9 cells190 cells9
  exact ⟨Go.Lib.tabIs_of_head (g := 6) (t := 168) (e := 162) (n := 20) (by kernel_rfl) (by kernel_rfl) Tryz.underlying168 Tryz.underlying162 (by kernel_rfl) (by kernel_rfl) h, ⟨_, _, cell_var g_syn hv2⟩, ⟨_, _, cell_var g_ran hv1⟩⟩
end Go.Proofs.YtpjcpdnolcehcaaGreatDoor
