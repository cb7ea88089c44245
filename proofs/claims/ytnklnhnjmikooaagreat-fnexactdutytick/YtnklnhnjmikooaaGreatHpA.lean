
/- Methods of the timers worked on, found through an interface. -/
import Derived.Test.YtnklnhnjmikooaaGreatWh0
import Derived.Test.YtnklnhnjmikooaaGreatInf
namespace Go.Proofs.YtnklnhnjmikooaaGreat
open Go.RowKit

theorem meth {nm : String} {f : FuncId} {rc : Bool} {v u : Value} {w : World} {fuel : Nat} {t : TypeId} (hm : ((Tryz.prog.info? t).bind fun i => i.methods.find? (fun x => x.name == nm)).map (fun m => (m.path.toList, m.func)) = some ([], some (f, rc)))
    (hr : ∀ nm', Sem.run Tryz.prog (receiverAt t (.val v) rc (some nm')) w = .ok u w) : (method (fuel + 1) t v nm).run Tryz.prog w = .ok (f, u) w := by
  cases hi : Tryz.prog.info? t with
  | none => rw [hi] at hm; cases hm
  | some i =>
    rw [hi] at hm
    cases hm' : i.methods.find? (fun x => x.name == nm) with
    | none => simp [hm'] at hm
    | some m =>
      simp only [Option.bind_some, hm', Option.map_some, Option.some.injEq, Prod.mk.injEq] at hm
      obtain ⟨h1, h2⟩ := hm
      have h3 : m.path = #[] := by simpa using h1
      have ht : Sem.run Tryz.prog (typeInfo t) w = .ok i w := by simp [typeInfo, hi, go_sem]
      simp [method, go_sem, ht, hm', h2, h3, follow, hr]
theorem wrapN (nm : String) (a : Addr) (w : World) : Sem.run Tryz.prog (Builtin.ssaWrapNilChk_ #[163] 163 #[.pointer (some a), strVal "", strVal nm]) w = .ok (.pointer (some a)) w := by kernel_rfl
theorem recvA (nm : String) (h : Nat) (a : Option Addr) (n cap : Nat) (w : World) (hc : w.cell? ⟨h, 0, none⟩ = some (.slice a n cap)) : Sem.run Tryz.prog (receiverAt 163 (.val (.pointer (some ⟨h, 0, none⟩))) false (some nm)) w = .ok (.slice a n cap) w := by
  have hu : Sem.run Tryz.prog (underlying 163) w = .ok (.pointer 169) w := by kernel_rfl
  simp [receiverAt, go_sem, hu, hc, Place.get, wrapN]
theorem mLen (h : Nat) (a : Option Addr) (n cap : Nat) (w : World) (hc : w.cell? ⟨h, 0, none⟩ = some (.slice a n cap)) : (method 298 163 (.pointer (some ⟨h, 0, none⟩)) "Len").run Tryz.prog w = .ok (119, .slice a n cap) w :=
  meth (rc := false) (by kernel_rfl) (fun nm => recvA nm h a n cap w hc)
theorem mLess (h : Nat) (a : Option Addr) (n cap : Nat) (w : World) (hc : w.cell? ⟨h, 0, none⟩ = some (.slice a n cap)) : (method 298 163 (.pointer (some ⟨h, 0, none⟩)) "Less").run Tryz.prog w = .ok (143, .slice a n cap) w :=
  meth (rc := false) (by kernel_rfl) (fun nm => recvA nm h a n cap w hc)
theorem mSwap (h : Nat) (a : Option Addr) (n cap : Nat) (w : World) (hc : w.cell? ⟨h, 0, none⟩ = some (.slice a n cap)) : (method 298 163 (.pointer (some ⟨h, 0, none⟩)) "Swap").run Tryz.prog w = .ok (146, .slice a n cap) w :=
  meth (rc := false) (by kernel_rfl) (fun nm => recvA nm h a n cap w hc)
theorem mPop (v : Value) (w : World) : (method 298 163 v "Pop").run Tryz.prog w = .ok (144, v) w := by kernel_rfl
theorem mPush (v : Value) (w : World) : (method 298 163 v "Push").run Tryz.prog w = .ok (145, v) w := by kernel_rfl

end Go.Proofs.YtnklnhnjmikooaaGreat
