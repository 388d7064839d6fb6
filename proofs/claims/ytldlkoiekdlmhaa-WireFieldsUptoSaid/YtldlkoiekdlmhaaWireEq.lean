/-
  Requests compared. Written by wip.
-/
import Derived.Test.YtldlkoiekdlmhaaPkWireAskV
import Derived.Test.YtldlkoiekdlmhaaPkChRight
namespace Go.Proofs.Ytldlkoiekdlmhaa.Wi
open Go.ChangeShapes Go.WideShapes Go.ChangeAt Go.RowKit
open Go.Proofs.Ytldlkoiekdlmhaa.Mem
set_option linter.unusedVariables false
set_option linter.unusedSimpArgs false
set_option maxRecDepth 100000
theorem ask_ext {a a' : Ask} (h0 : a'.k = a.k) (h1 : a'.tx = a.tx) (h2 : a'.c.k = a.c.k) (h3 : a'.c.i = a.c.i) (h4 : a'.c.t = a.c.t) (h5 : a'.c.ut = a.c.ut) (h6 : a'.c.ui = a.c.ui) (h7 : a'.v = a.v) (h8 : a'.s0 = a.s0) (h9 : a'.s1 = a.s1) (h10 : a'.s2 = a.s2) (h11 : a'.s3 = a.s3) (h12 : a'.s4 = a.s4) (h13 : a'.s5 = a.s5) (h14 : a'.s6 = a.s6) : a' = a := by
  cases a with
  | mk k tx c v s0 s1 s2 s3 s4 s5 s6 =>
    cases a' with
    | mk k' tx' c' v' t0 t1 t2 t3 t4 t5 t6 =>
      cases c; cases c'
      simp only at h0 h1 h2 h3 h4 h5 h6 h7 h8 h9 h10 h11 h12 h13 h14
      subst h0 h1 h2 h3 h4 h5 h6 h7 h8 h9 h10 h11 h12 h13 h14
      rfl
set_option maxHeartbeats 4000000 in
theorem neq_ask (a a' : Ask) (h : a' ≠ a) (w : World) : (binOp .neq 30 (.agg #[.int .u8 (a'.k : Nat), .int .u64 (a'.tx : Nat), .int .u8 (a'.c.k : Nat), .string a'.c.i, .string a'.c.t, .string a'.c.ut, .string a'.c.ui, .int .u64 (a'.v : Nat), .string a'.s0, .string a'.s1, .string a'.s2, .string a'.s3, .string a'.s4, .string a'.s5, .string a'.s6]) (.agg #[.int .u8 (a.k : Nat), .int .u64 (a.tx : Nat), .int .u8 (a.c.k : Nat), .string a.c.i, .string a.c.t, .string a.c.ut, .string a.c.ui, .int .u64 (a.v : Nat), .string a.s0, .string a.s1, .string a.s2, .string a.s3, .string a.s4, .string a.s5, .string a.s6])).run Try.prog w = .ok (.bool true) w := by
  by_cases h0 : a'.k = a.k
  case neg =>
    have g0 : ¬ ((a'.k : Nat) : Int) = ((a.k : Nat) : Int) := by omega
    simp [go_sem, h0]
    intro e; exact absurd e g0
  by_cases h1 : a'.tx = a.tx
  case neg =>
    have g1 : ¬ ((a'.tx : Nat) : Int) = ((a.tx : Nat) : Int) := by omega
    simp [go_sem, h0, h1]
    intro e; exact absurd e g1
  by_cases h2 : a'.c.k = a.c.k
  case neg =>
    have g2 : ¬ ((a'.c.k : Nat) : Int) = ((a.c.k : Nat) : Int) := by omega
    simp [go_sem, h0, h1, h2]
    intro e; exact absurd e g2
  by_cases h3 : a'.c.i = a.c.i
  case neg =>
    have g3 : ¬ a'.c.i.toList = a.c.i.toList := fun e => h3 (tl_eq.1 e)
    simp [go_sem, h0, h1, h2, g3]
  by_cases h4 : a'.c.t = a.c.t
  case neg =>
    have g4 : ¬ a'.c.t.toList = a.c.t.toList := fun e => h4 (tl_eq.1 e)
    simp [go_sem, h0, h1, h2, h3, g4]
  by_cases h5 : a'.c.ut = a.c.ut
  case neg =>
    have g5 : ¬ a'.c.ut.toList = a.c.ut.toList := fun e => h5 (tl_eq.1 e)
    simp [go_sem, h0, h1, h2, h3, h4, g5]
  by_cases h6 : a'.c.ui = a.c.ui
  case neg =>
    have g6 : ¬ a'.c.ui.toList = a.c.ui.toList := fun e => h6 (tl_eq.1 e)
    simp [go_sem, h0, h1, h2, h3, h4, h5, g6]
  by_cases h7 : a'.v = a.v
  case neg =>
    have g7 : ¬ ((a'.v : Nat) : Int) = ((a.v : Nat) : Int) := by omega
    simp [go_sem, h0, h1, h2, h3, h4, h5, h6, h7]
    intro e; exact absurd e g7
  by_cases h8 : a'.s0 = a.s0
  case neg =>
    have g8 : ¬ a'.s0.toList = a.s0.toList := fun e => h8 (tl_eq.1 e)
    simp [go_sem, h0, h1, h2, h3, h4, h5, h6, h7, g8]
  by_cases h9 : a'.s1 = a.s1
  case neg =>
    have g9 : ¬ a'.s1.toList = a.s1.toList := fun e => h9 (tl_eq.1 e)
    simp [go_sem, h0, h1, h2, h3, h4, h5, h6, h7, h8, g9]
  by_cases h10 : a'.s2 = a.s2
  case neg =>
    have g10 : ¬ a'.s2.toList = a.s2.toList := fun e => h10 (tl_eq.1 e)
    simp [go_sem, h0, h1, h2, h3, h4, h5, h6, h7, h8, h9, g10]
  by_cases h11 : a'.s3 = a.s3
  case neg =>
    have g11 : ¬ a'.s3.toList = a.s3.toList := fun e => h11 (tl_eq.1 e)
    simp [go_sem, h0, h1, h2, h3, h4, h5, h6, h7, h8, h9, h10, g11]
  by_cases h12 : a'.s4 = a.s4
  case neg =>
    have g12 : ¬ a'.s4.toList = a.s4.toList := fun e => h12 (tl_eq.1 e)
    simp [go_sem, h0, h1, h2, h3, h4, h5, h6, h7, h8, h9, h10, h11, g12]
  by_cases h13 : a'.s5 = a.s5
  case neg =>
    have g13 : ¬ a'.s5.toList = a.s5.toList := fun e => h13 (tl_eq.1 e)
    simp [go_sem, h0, h1, h2, h3, h4, h5, h6, h7, h8, h9, h10, h11, h12, g13]
  by_cases h14 : a'.s6 = a.s6
  case neg =>
    have g14 : ¬ a'.s6.toList = a.s6.toList := fun e => h14 (tl_eq.1 e)
    simp [go_sem, h0, h1, h2, h3, h4, h5, h6, h7, h8, h9, h10, h11, h12, h13, g14]
  exact absurd (ask_ext h0 h1 h2 h3 h4 h5 h6 h7 h8 h9 h10 h11 h12 h13 h14) h
set_option maxHeartbeats 4000000 in
theorem eql_ask (a a' : Ask) (h : a' ≠ a) (w : World) : (binOp .eql 30 (.agg #[.int .u8 (a'.k : Nat), .int .u64 (a'.tx : Nat), .int .u8 (a'.c.k : Nat), .string a'.c.i, .string a'.c.t, .string a'.c.ut, .string a'.c.ui, .int .u64 (a'.v : Nat), .string a'.s0, .string a'.s1, .string a'.s2, .string a'.s3, .string a'.s4, .string a'.s5, .string a'.s6]) (.agg #[.int .u8 (a.k : Nat), .int .u64 (a.tx : Nat), .int .u8 (a.c.k : Nat), .string a.c.i, .string a.c.t, .string a.c.ut, .string a.c.ui, .int .u64 (a.v : Nat), .string a.s0, .string a.s1, .string a.s2, .string a.s3, .string a.s4, .string a.s5, .string a.s6])).run Try.prog w = .ok (.bool false) w := by
  by_cases h0 : a'.k = a.k
  case neg =>
    have g0 : ¬ ((a'.k : Nat) : Int) = ((a.k : Nat) : Int) := by omega
    simp [go_sem, h0]
    intro e; exact absurd e g0
  by_cases h1 : a'.tx = a.tx
  case neg =>
    have g1 : ¬ ((a'.tx : Nat) : Int) = ((a.tx : Nat) : Int) := by omega
    simp [go_sem, h0, h1]
    intro e; exact absurd e g1
  by_cases h2 : a'.c.k = a.c.k
  case neg =>
    have g2 : ¬ ((a'.c.k : Nat) : Int) = ((a.c.k : Nat) : Int) := by omega
    simp [go_sem, h0, h1, h2]
    intro e; exact absurd e g2
  by_cases h3 : a'.c.i = a.c.i
  case neg =>
    have g3 : ¬ a'.c.i.toList = a.c.i.toList := fun e => h3 (tl_eq.1 e)
    simp [go_sem, h0, h1, h2, g3]
  by_cases h4 : a'.c.t = a.c.t
  case neg =>
    have g4 : ¬ a'.c.t.toList = a.c.t.toList := fun e => h4 (tl_eq.1 e)
    simp [go_sem, h0, h1, h2, h3, g4]
  by_cases h5 : a'.c.ut = a.c.ut
  case neg =>
    have g5 : ¬ a'.c.ut.toList = a.c.ut.toList := fun e => h5 (tl_eq.1 e)
    simp [go_sem, h0, h1, h2, h3, h4, g5]
  by_cases h6 : a'.c.ui = a.c.ui
  case neg =>
    have g6 : ¬ a'.c.ui.toList = a.c.ui.toList := fun e => h6 (tl_eq.1 e)
    simp [go_sem, h0, h1, h2, h3, h4, h5, g6]
  by_cases h7 : a'.v = a.v
  case neg =>
    have g7 : ¬ ((a'.v : Nat) : Int) = ((a.v : Nat) : Int) := by omega
    simp [go_sem, h0, h1, h2, h3, h4, h5, h6, h7]
    intro e; exact absurd e g7
  by_cases h8 : a'.s0 = a.s0
  case neg =>
    have g8 : ¬ a'.s0.toList = a.s0.toList := fun e => h8 (tl_eq.1 e)
    simp [go_sem, h0, h1, h2, h3, h4, h5, h6, h7, g8]
  by_cases h9 : a'.s1 = a.s1
  case neg =>
    have g9 : ¬ a'.s1.toList = a.s1.toList := fun e => h9 (tl_eq.1 e)
    simp [go_sem, h0, h1, h2, h3, h4, h5, h6, h7, h8, g9]
  by_cases h10 : a'.s2 = a.s2
  case neg =>
    have g10 : ¬ a'.s2.toList = a.s2.toList := fun e => h10 (tl_eq.1 e)
    simp [go_sem, h0, h1, h2, h3, h4, h5, h6, h7, h8, h9, g10]
  by_cases h11 : a'.s3 = a.s3
  case neg =>
    have g11 : ¬ a'.s3.toList = a.s3.toList := fun e => h11 (tl_eq.1 e)
    simp [go_sem, h0, h1, h2, h3, h4, h5, h6, h7, h8, h9, h10, g11]
  by_cases h12 : a'.s4 = a.s4
  case neg =>
    have g12 : ¬ a'.s4.toList = a.s4.toList := fun e => h12 (tl_eq.1 e)
    simp [go_sem, h0, h1, h2, h3, h4, h5, h6, h7, h8, h9, h10, h11, g12]
  by_cases h13 : a'.s5 = a.s5
  case neg =>
    have g13 : ¬ a'.s5.toList = a.s5.toList := fun e => h13 (tl_eq.1 e)
    simp [go_sem, h0, h1, h2, h3, h4, h5, h6, h7, h8, h9, h10, h11, h12, g13]
  by_cases h14 : a'.s6 = a.s6
  case neg =>
    have g14 : ¬ a'.s6.toList = a.s6.toList := fun e => h14 (tl_eq.1 e)
    simp [go_sem, h0, h1, h2, h3, h4, h5, h6, h7, h8, h9, h10, h11, h12, h13, g14]
  exact absurd (ask_ext h0 h1 h2 h3 h4 h5 h6 h7 h8 h9 h10 h11 h12 h13 h14) h
end Go.Proofs.Ytldlkoiekdlmhaa.Wi
