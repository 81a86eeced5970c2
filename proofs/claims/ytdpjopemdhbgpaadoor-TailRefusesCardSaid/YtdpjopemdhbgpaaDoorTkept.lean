/- A slice of texts that moves on, and what machines of lines do. -/
import Derived.Test.YtdpjopemdhbgpaaDoorQA
import Derived.Test.YtdpjopemdhbgpaaDoorLdriven
