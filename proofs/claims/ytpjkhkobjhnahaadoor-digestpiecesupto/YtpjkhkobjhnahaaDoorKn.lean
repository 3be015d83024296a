import Derived.Test.YtpjkhkobjhnahaaDoorMac
import Derived.Test.YtpjkhkobjhnahaaDoorLin
import Derived.Lib.SlBytesConst
namespace Go.Proofs.YtpjkhkobjhnahaaDoor
open Go.RowKit
set_option linter.unusedVariables false
set_option linter.unusedSimpArgs false

def abcL : List UInt8 := [97, 98, 99]
def jefeL : List UInt8 := [74, 101, 102, 101]
def whatL : List UInt8 := [119, 104, 97, 116, 32, 100, 111, 32, 121, 97, 32, 119, 97, 110, 116, 32, 102, 111, 114, 32, 110, 111, 116, 104, 105, 110, 103, 63]
def S1 : ByteArray := { data := #[101, 51, 98, 48, 99, 52, 52, 50, 57, 56, 102, 99, 49, 99, 49, 52, 57, 97, 102, 98, 102, 52, 99, 56, 57, 57, 54, 102, 98, 57, 50, 52, 50, 55, 97, 101, 52, 49, 101, 52, 54, 52, 57, 98, 57, 51, 52, 99, 97, 52, 57, 53, 57, 57, 49, 98, 55, 56, 53, 50, 98, 56, 53, 53] }
def S2 : ByteArray := { data := #[98, 97, 55, 56, 49, 54, 98, 102, 56, 102, 48, 49, 99, 102, 101, 97, 52, 49, 52, 49, 52, 48, 100, 101, 53, 100, 97, 101, 50, 50, 50, 51, 98, 48, 48, 51, 54, 49, 97, 51, 57, 54, 49, 55, 55, 97, 57, 99, 98, 52, 49, 48, 102, 102, 54, 49, 102, 50, 48, 48, 49, 53, 97, 100] }
def S3 : ByteArray := { data := #[53, 98, 100, 99, 99, 49, 52, 54, 98, 102, 54, 48, 55, 53, 52, 101, 54, 97, 48, 52, 50, 52, 50, 54, 48, 56, 57, 53, 55, 53, 99, 55, 53, 97, 48, 48, 51, 102, 48, 56, 57, 100, 50, 55, 51, 57, 56, 51, 57, 100, 101, 99, 53, 56, 98, 57, 54, 52, 101, 99, 51, 56, 52, 51] }
theorem known1 : (⟨(hexl (sha []) 64).toArray⟩ : ByteArray) = S1 := by kernel_rfl
theorem known2 : (⟨(hexl (sha abcL) 64).toArray⟩ : ByteArray) = S2 := by kernel_rfl
theorem known3 : (⟨(hexl (mac jefeL whatL) 64).toArray⟩ : ByteArray) = S3 := by kernel_rfl
end Go.Proofs.YtpjkhkobjhnahaaDoor
